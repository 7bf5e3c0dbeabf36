package split_test

import (
	"math"
	"math/big"
	"slices"
	"testing"

	"davit/api"
	"davit/split"
)

const (
	greatest = math.MaxInt64
	least    = math.MinInt64
)

// noCores are numbers that no core has.
var noCores = []int{math.MinInt, -1 << 32, -64, -1, 64, 65, 1 << 32, 1<<32 + 1, math.MaxInt}

// made is a split with these numbers, core by core.
func made(t *testing.T, numbers ...int64) *split.Split {
	t.Helper()
	s, why := split.New(len(numbers))
	if why != api.OK || s == nil {
		t.Fatalf("New(%d) = %v, %d", len(numbers), s, why)
	}
	for cpu, n := range numbers {
		adds(t, s, cpu, n, api.OK)
	}
	return s
}

func adds(t *testing.T, s *split.Split, cpu int, n int64, want api.Errno) {
	t.Helper()
	if why := s.Add(cpu, n); why != want {
		t.Fatalf("Add(%d, %d) = %d, want %d", cpu, n, why, want)
	}
}

func folds(t *testing.T, s *split.Split, from, to int, want api.Errno) {
	t.Helper()
	if why := s.Fold(from, to); why != want {
		t.Fatalf("Fold(%d, %d) = %d, want %d", from, to, why, want)
	}
}

// exact is the sum, by numbers of any size, and what Sum must answer with it.
func exact(numbers []int64) (int64, api.Errno) {
	sum := new(big.Int)
	for _, n := range numbers {
		sum.Add(sum, big.NewInt(n))
	}
	if !sum.IsInt64() {
		return 0, api.ErrOver
	}
	return sum.Int64(), api.OK
}

// holds says that the split is as it must be, by each call that only looks.
func holds(t *testing.T, what string, s *split.Split, want ...int64) {
	t.Helper()
	if l := s.List(); !slices.Equal(l, want) {
		t.Fatalf("%s: List() = %v, want %v", what, l, want)
	}
	for cpu, n := range want {
		if got, why := s.Get(cpu); got != n || why != api.OK {
			t.Fatalf("%s: Get(%d) = %d, %d, want %d", what, cpu, got, why, n)
		}
	}
	for _, cpu := range []int{-1, len(want), 64} {
		if got, why := s.Get(cpu); got != 0 || why != api.ErrRange {
			t.Fatalf("%s: Get(%d) = %d, %d, want 0, %d", what, cpu, got, why, api.ErrRange)
		}
	}
	sum, why := exact(want)
	if got, gotWhy := s.Sum(); got != sum || gotWhy != why {
		t.Fatalf("%s: Sum() of %v = %d, %d, want %d, %d", what, want, got, gotWhy, sum, why)
	}
}

func TestNewTellsHowManyCoresThereMayBe(t *testing.T) {
	for _, cpus := range []int{math.MinInt, -64, -2, -1, 0, 65, 66, 128, 1 << 32, 1<<32 + 1, math.MaxInt} {
		if s, why := split.New(cpus); s != nil || why != api.ErrArg {
			t.Errorf("New(%d) = %v, %d, want nil, %d", cpus, s, why, api.ErrArg)
		}
	}
	for _, cpus := range []int{1, 2, 3, 63, 64} {
		s, why := split.New(cpus)
		if s == nil || why != api.OK {
			t.Fatalf("New(%d) = %v, %d", cpus, s, why)
		}
		holds(t, "new", s, make([]int64, cpus)...)
		adds(t, s, cpus-1, 5, api.OK)
		adds(t, s, cpus, 5, api.ErrRange)
	}
}

func TestAddGoesToOneCoreAlone(t *testing.T) {
	s := made(t, 0, 0, 0)
	adds(t, s, 1, 5, api.OK)
	holds(t, "added", s, 0, 5, 0)
	adds(t, s, 0, -2, api.OK)
	adds(t, s, 1, -9, api.OK)
	adds(t, s, 2, 0, api.OK)
	holds(t, "added", s, -2, -4, 0)
}

func TestAddToTheBounds(t *testing.T) {
	s := made(t, greatest-1, least+1, 3)
	adds(t, s, 0, 2, api.ErrOver)
	adds(t, s, 0, greatest, api.ErrOver)
	adds(t, s, 1, -2, api.ErrOver)
	adds(t, s, 1, least, api.ErrOver)
	adds(t, s, 2, greatest, api.ErrOver)
	adds(t, s, 2, greatest-2, api.ErrOver)
	holds(t, "refused", s, greatest-1, least+1, 3)
	adds(t, s, 0, 1, api.OK)
	adds(t, s, 1, -1, api.OK)
	adds(t, s, 2, greatest-3, api.OK)
	holds(t, "reached", s, greatest, least, greatest)
	adds(t, s, 0, 1, api.ErrOver)
	adds(t, s, 1, -1, api.ErrOver)
	holds(t, "refused", s, greatest, least, greatest)
	adds(t, s, 0, 0, api.OK)
	adds(t, s, 0, least, api.OK)
	adds(t, s, 1, greatest, api.OK)
	holds(t, "back", s, -1, -1, greatest)
	low := made(t, -1)
	adds(t, low, 0, least, api.ErrOver)
	adds(t, low, 0, least+1, api.OK)
	holds(t, "reached", low, least)
}

func TestWhatIsNoCore(t *testing.T) {
	s := made(t, 4, 5, 6)
	for _, cpu := range append([]int{3, 4, 63}, noCores...) {
		adds(t, s, cpu, 1, api.ErrRange)
		adds(t, s, cpu, greatest, api.ErrRange)
		if n, why := s.Get(cpu); n != 0 || why != api.ErrRange {
			t.Errorf("Get(%d) = %d, %d", cpu, n, why)
		}
		folds(t, s, cpu, 0, api.ErrRange)
		folds(t, s, 0, cpu, api.ErrRange)
		folds(t, s, cpu, cpu, api.ErrRange)
	}
	holds(t, "refused", s, 4, 5, 6)
	full := made(t, make([]int64, 64)...)
	for _, cpu := range noCores {
		adds(t, full, cpu, 1, api.ErrRange)
		folds(t, full, cpu, 63, api.ErrRange)
		folds(t, full, 63, cpu, api.ErrRange)
		if n, why := full.Get(cpu); n != 0 || why != api.ErrRange {
			t.Errorf("Get(%d) = %d, %d", cpu, n, why)
		}
	}
}

func TestSum(t *testing.T) {
	for _, c := range []struct {
		numbers []int64
		sum     int64
		why     api.Errno
	}{
		{[]int64{0}, 0, api.OK},
		{[]int64{5, -2}, 3, api.OK},
		{[]int64{-5, 2, -1}, -4, api.OK},
		{[]int64{greatest}, greatest, api.OK},
		{[]int64{least}, least, api.OK},
		{[]int64{greatest, 1}, 0, api.ErrOver},
		{[]int64{1, greatest}, 0, api.ErrOver},
		{[]int64{least, -1}, 0, api.ErrOver},
		{[]int64{-1, least}, 0, api.ErrOver},
		{[]int64{greatest, 1, -1}, greatest, api.OK},
		{[]int64{least, -1, 1}, least, api.OK},
		{[]int64{greatest, least}, -1, api.OK},
		{[]int64{greatest, greatest, least, least}, -2, api.OK},
		{[]int64{greatest, greatest, greatest, least, least, 1}, greatest - 1, api.OK},
		{[]int64{greatest, greatest, greatest, least, least, 2}, greatest, api.OK},
		{[]int64{greatest, greatest, greatest, least, least, 3}, 0, api.ErrOver},
		{[]int64{least, least, greatest, -1}, 0, api.ErrOver},
		{[]int64{least, least, greatest, 1}, least, api.OK},
		{[]int64{least, least, greatest, 0}, 0, api.ErrOver},
		// Sums that wrap round to a number that looks right.
		{[]int64{least, least}, 0, api.ErrOver},
		{[]int64{greatest, greatest, 2}, 0, api.ErrOver},
		{[]int64{greatest, greatest, 7}, 0, api.ErrOver},
		{[]int64{least, least, least, least}, 0, api.ErrOver},
	} {
		s := made(t, c.numbers...)
		if sum, why := s.Sum(); sum != c.sum || why != c.why {
			t.Errorf("Sum() of %v = %d, %d, want %d, %d", c.numbers, sum, why, c.sum, c.why)
		}
		holds(t, "summed", s, c.numbers...)
	}
}

// TestSumOfAllCores goes as far as 64 numbers can, both ways.
func TestSumOfAllCores(t *testing.T) {
	for _, bound := range []int64{greatest, least, 1 << 57, 1<<57 - 1, -1 << 57, -1<<57 - 1} {
		s := made(t, make([]int64, 64)...)
		want := make([]int64, 64)
		for cpu := range 64 {
			adds(t, s, cpu, bound, api.OK)
			want[cpu] = bound
			holds(t, "added", s, want...)
		}
		for cpu := range 64 {
			adds(t, s, cpu, -(bound / 2), api.OK)
			adds(t, s, cpu, -(bound / 2), api.OK)
			want[cpu] = bound % 2
			holds(t, "taken away", s, want...)
		}
	}
}

func TestFold(t *testing.T) {
	s := made(t, 5, -2)
	folds(t, s, 1, 0, api.OK)
	holds(t, "folded", s, 3, 0)
	folds(t, s, 0, 1, api.OK)
	holds(t, "folded back", s, 0, 3)
	folds(t, s, 0, 1, api.OK)
	holds(t, "nothing to fold", s, 0, 3)
	folds(t, s, 0, 0, api.ErrArg)
	folds(t, s, 1, 1, api.ErrArg)
	holds(t, "refused", s, 0, 3)
	wide := made(t, make([]int64, 64)...)
	adds(t, wide, 0, -7, api.OK)
	folds(t, wide, 0, 63, api.OK)
	want := make([]int64, 64)
	want[63] = -7
	holds(t, "folded", wide, want...)
}

func TestFoldToTheBounds(t *testing.T) {
	s := made(t, greatest, 1, least, -1, -1)
	for _, c := range [][2]int{{1, 0}, {0, 1}, {3, 2}, {2, 3}} {
		folds(t, s, c[0], c[1], api.ErrOver)
	}
	// A core that is folded to itself is told so, though twice its number does not fit.
	folds(t, s, 0, 0, api.ErrArg)
	folds(t, s, 2, 2, api.ErrArg)
	holds(t, "refused", s, greatest, 1, least, -1, -1)
	folds(t, s, 3, 0, api.OK)
	holds(t, "folded", s, greatest-1, 1, least, 0, -1)
	folds(t, s, 0, 1, api.OK)
	holds(t, "the greatest", s, 0, greatest, least, 0, -1)
	folds(t, s, 1, 2, api.OK)
	holds(t, "both bounds", s, 0, 0, -1, 0, -1)
	adds(t, s, 2, least+2, api.OK)
	folds(t, s, 2, 4, api.OK)
	holds(t, "the least", s, 0, 0, 0, 0, least)
	folds(t, s, 4, 0, api.OK)
	holds(t, "moved", s, least, 0, 0, 0, 0)
}

// TestSumIsOfAllThatWasAdded does long mixed runs: small numbers, and such that reach the bounds.
func TestSumIsOfAllThatWasAdded(t *testing.T) {
	state := uint64(5)
	draw := func() uint64 {
		state = state*6364136223846793005 + 1442695040888963407
		return state>>33 | state<<31
	}
	below := func(n int) int { return int(draw() % uint64(n)) }
	for _, cpus := range []int{1, 2, 3, 7, 64} {
		s := made(t, make([]int64, cpus)...)
		want := make([]int64, cpus)
		added := new(big.Int)
		for range 3000 {
			from, to := below(cpus), below(cpus)
			n := int64(draw()) >> (below(8) * 8)
			fits := func(a, b int64) bool {
				return new(big.Int).Add(big.NewInt(a), big.NewInt(b)).IsInt64()
			}
			switch {
			case below(3) > 0 && fits(want[to], n):
				adds(t, s, to, n, api.OK)
				want[to] += n
				added.Add(added, big.NewInt(n))
			case from == to:
				folds(t, s, from, to, api.ErrArg)
			case fits(want[from], want[to]):
				folds(t, s, from, to, api.OK)
				want[to] += want[from]
				want[from] = 0
			default:
				folds(t, s, from, to, api.ErrOver)
			}
			if !fits(want[to], n) {
				adds(t, s, to, n, api.ErrOver)
			}
			holds(t, "mixed", s, want...)
			sum, why := s.Sum()
			if added.IsInt64() != (why == api.OK) || why == api.OK && added.Int64() != sum {
				t.Fatalf("Sum() = %d, %d; added was %v", sum, why, added)
			}
		}
	}
}

func TestListIsTheCallersOwn(t *testing.T) {
	s := made(t, 7, 8, 9)
	one, two := s.List(), s.List()
	for cpu := range one {
		one[cpu] = -1
	}
	_ = append(one, -2)
	if !slices.Equal(two, []int64{7, 8, 9}) {
		t.Errorf("a list was changed by another: %v", two)
	}
	holds(t, "written into", s, 7, 8, 9)
	adds(t, s, 0, 1, api.OK)
	folds(t, s, 1, 2, api.OK)
	if !slices.Equal(two, []int64{7, 8, 9}) {
		t.Errorf("a list was changed by the split: %v", two)
	}
}

func TestTwoSplitsShareNothing(t *testing.T) {
	a, b := made(t, 1, 2), made(t, 3, 4)
	folds(t, a, 0, 1, api.OK)
	adds(t, b, 0, 5, api.OK)
	holds(t, "the one", a, 0, 3)
	holds(t, "the other", b, 8, 4)
}

// none says what a split that has no cores, or is not there, answers.
func none(t *testing.T, s *split.Split, core, sum api.Errno) {
	t.Helper()
	for _, cpu := range append([]int{0, 1, 63}, noCores...) {
		adds(t, s, cpu, 1, core)
		folds(t, s, cpu, 0, core)
		folds(t, s, 0, cpu, core)
		folds(t, s, cpu, cpu, core)
		if n, why := s.Get(cpu); n != 0 || why != core {
			t.Errorf("Get(%d) = %d, %d, want 0, %d", cpu, n, why, core)
		}
	}
	if n, why := s.Sum(); n != 0 || why != sum {
		t.Errorf("Sum() = %d, %d, want 0, %d", n, why, sum)
	}
	if l := s.List(); len(l) != 0 {
		t.Errorf("List() = %v", l)
	}
}

func TestNilSplit(t *testing.T) {
	none(t, nil, api.ErrNil, api.ErrNil)
}

func TestSplitThatNewDidNotMake(t *testing.T) {
	none(t, &split.Split{}, api.ErrRange, api.OK)
}
