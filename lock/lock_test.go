package lock_test

import (
	"math"
	"slices"
	"testing"

	"davit/api"
	"davit/lock"
)

// noCores are numbers that no core has.
var noCores = []int{math.MinInt, -1 << 32, -65, -64, -1, 64, 65, 128, 1 << 32, 1<<32 + 1, math.MaxInt}

// taken is a lock that these cores want, in this order.
func taken(t *testing.T, cpus ...int) *lock.Spin {
	t.Helper()
	s := &lock.Spin{}
	for _, cpu := range cpus {
		takes(t, s, cpu, api.OK)
	}
	return s
}

func takes(t *testing.T, s *lock.Spin, cpu int, want api.Errno) {
	t.Helper()
	if why := s.Take(cpu); why != want {
		t.Fatalf("Take(%d) = %d, want %d", cpu, why, want)
	}
}

func leaves(t *testing.T, s *lock.Spin, cpu int, want api.Errno) {
	t.Helper()
	if why := s.Leave(cpu); why != want {
		t.Fatalf("Leave(%d) = %d, want %d", cpu, why, want)
	}
}

// wanted says who owns the lock and who waits, by each call that only looks.
func wanted(t *testing.T, what string, s *lock.Spin, want ...int) {
	t.Helper()
	if l := s.Waits(); !slices.Equal(l, want) {
		t.Fatalf("%s: Waits() = %v, want %v", what, l, want)
	}
	cpu, owned := s.Owner()
	if len(want) == 0 && (cpu != 0 || owned) {
		t.Fatalf("%s: Owner() = %d, %v, want 0, false", what, cpu, owned)
	}
	if len(want) > 0 && (cpu != want[0] || !owned) {
		t.Fatalf("%s: Owner() = %d, %v, want %d, true", what, cpu, owned, want[0])
	}
}

func TestLockIsFreeAtFirst(t *testing.T) {
	var s lock.Spin
	wanted(t, "zero value", &s)
	for _, cpu := range []int{0, 1, 62, 63} {
		leaves(t, &s, cpu, api.ErrOwner)
	}
	wanted(t, "refused", &s)
	takes(t, &s, 0, api.OK)
	wanted(t, "taken", &s, 0)
	leaves(t, &s, 0, api.OK)
	wanted(t, "left", &s)
	leaves(t, &s, 0, api.ErrOwner)
}

func TestFirstOneOwnsTheLock(t *testing.T) {
	s := taken(t, 1, 2)
	wanted(t, "taken", s, 1, 2)
	leaves(t, s, 1, api.OK)
	wanted(t, "left", s, 2)
	takes(t, s, 1, api.OK)
	wanted(t, "taken again", s, 2, 1)
}

func TestTakeByOneThatWantsTheLock(t *testing.T) {
	s := taken(t, 63, 0, 7)
	for _, cpu := range []int{63, 0, 7} {
		takes(t, s, cpu, api.ErrState)
	}
	wanted(t, "refused", s, 63, 0, 7)
	leaves(t, s, 63, api.OK)
	takes(t, s, 0, api.ErrState)
	takes(t, s, 7, api.ErrState)
	wanted(t, "refused", s, 0, 7)
	takes(t, s, 63, api.OK)
	wanted(t, "taken again", s, 0, 7, 63)
}

func TestLeaveByOneThatDoesNotOwnTheLock(t *testing.T) {
	s := taken(t, 5, 0, 7)
	for _, cpu := range []int{0, 7, 1, 6, 63} {
		leaves(t, s, cpu, api.ErrOwner)
	}
	wanted(t, "refused", s, 5, 0, 7)
	leaves(t, s, 5, api.OK)
	leaves(t, s, 5, api.ErrOwner)
	wanted(t, "left", s, 0, 7)
}

func TestLockRefusesWhatIsNoCore(t *testing.T) {
	for _, s := range []*lock.Spin{taken(t), taken(t, 0), taken(t, 63, 0)} {
		was := s.Waits()
		for _, cpu := range noCores {
			takes(t, s, cpu, api.ErrRange)
			leaves(t, s, cpu, api.ErrRange)
		}
		wanted(t, "refused", s, was...)
	}
}

// TestLockThatAllCoresWant goes round twice, so that each core stands at each place.
func TestLockThatAllCoresWant(t *testing.T) {
	s := taken(t)
	want := []int{}
	for k := range api.MaxCpu {
		cpu := (k*37 + 11) % api.MaxCpu
		takes(t, s, cpu, api.OK)
		want = append(want, cpu)
		wanted(t, "taken", s, want...)
	}
	for cpu := range api.MaxCpu {
		takes(t, s, cpu, api.ErrState)
		if cpu != want[0] {
			leaves(t, s, cpu, api.ErrOwner)
		}
	}
	takes(t, s, api.MaxCpu, api.ErrRange)
	wanted(t, "refused", s, want...)
	for range 2 * api.MaxCpu {
		leaves(t, s, want[0], api.OK)
		takes(t, s, want[0], api.OK)
		want = append(want[1:], want[0])
		wanted(t, "gone round", s, want...)
	}
	for len(want) > 0 {
		leaves(t, s, want[0], api.OK)
		want = want[1:]
		wanted(t, "left", s, want...)
	}
}

// draws is a fixed rule that gives numbers below the one it is asked for.
func draws() func(n int) int {
	state := uint64(3)
	return func(n int) int {
		state = state*6364136223846793005 + 1442695040888963407
		return int((state >> 33) % uint64(n))
	}
}

// TestEachOwnsWhenAllAheadHaveLeft does long mixed runs, with few cores and with all.
func TestEachOwnsWhenAllAheadHaveLeft(t *testing.T) {
	draw := draws()
	for _, cpus := range []int{1, 2, 3, 5, 64} {
		s := taken(t)
		want := []int{}
		for range 5000 {
			cpu := draw(cpus+2) - 1
			out := cpu < 0 || cpu >= api.MaxCpu
			in := slices.Contains(want, cpu)
			if draw(2) == 0 {
				switch {
				case out:
					takes(t, s, cpu, api.ErrRange)
				case in:
					takes(t, s, cpu, api.ErrState)
				default:
					takes(t, s, cpu, api.OK)
					want = append(want, cpu)
				}
			} else {
				if draw(2) == 0 && len(want) > 0 {
					cpu, out = want[0], false
				}
				switch {
				case out:
					leaves(t, s, cpu, api.ErrRange)
				case len(want) == 0 || want[0] != cpu:
					leaves(t, s, cpu, api.ErrOwner)
				default:
					leaves(t, s, cpu, api.OK)
					want = want[1:]
				}
			}
			wanted(t, "mixed", s, want...)
		}
	}
}

func TestWaitsIsTheCallersOwn(t *testing.T) {
	s := taken(t, 7, 8, 9)
	one, two := s.Waits(), s.Waits()
	for k := range one {
		one[k] = 3
	}
	_ = append(one, 4, 5)
	if !slices.Equal(two, []int{7, 8, 9}) {
		t.Errorf("a list was changed by another: %v", two)
	}
	wanted(t, "written into", s, 7, 8, 9)
	takes(t, s, 10, api.OK)
	wanted(t, "appended to", s, 7, 8, 9, 10)
	leaves(t, s, 7, api.OK)
	takes(t, s, 7, api.OK)
	if !slices.Equal(two, []int{7, 8, 9}) {
		t.Errorf("a list was changed by the lock: %v", two)
	}
	free := taken(t)
	_ = append(free.Waits(), 6)
	takes(t, free, 2, api.OK)
	_ = append(free.Waits(), 6)
	takes(t, free, 3, api.OK)
	wanted(t, "appended to an empty one", free, 2, 3)
}

func TestTwoLocksShareNothing(t *testing.T) {
	a, b := taken(t, 1, 2), taken(t, 2, 3)
	leaves(t, a, 1, api.OK)
	takes(t, b, 1, api.OK)
	wanted(t, "the one", a, 2)
	wanted(t, "the other", b, 2, 3, 1)
}

func TestNilLock(t *testing.T) {
	var s *lock.Spin
	for _, cpu := range append([]int{0, 1, 63}, noCores...) {
		takes(t, s, cpu, api.ErrNil)
		leaves(t, s, cpu, api.ErrNil)
	}
	wanted(t, "nil", s)
}

func begins(t *testing.T, p *lock.Pair, cpu int, want api.Errno) {
	t.Helper()
	if why := p.Begin(cpu); why != want {
		t.Fatalf("Begin(%d) = %d, want %d", cpu, why, want)
	}
}

func puts(t *testing.T, p *lock.Pair, cpu, at int, n int64, want api.Errno) {
	t.Helper()
	if why := p.Put(cpu, at, n); why != want {
		t.Fatalf("Put(%d, %d, %d) = %d, want %d", cpu, at, n, why, want)
	}
}

func ends(t *testing.T, p *lock.Pair, cpu int, want api.Errno) {
	t.Helper()
	if why := p.End(cpu); why != want {
		t.Fatalf("End(%d) = %d, want %d", cpu, why, want)
	}
}

// stands says what a pair is, by each call that only looks. While a core writes there is no stamp to be told, but it is known by Again.
func stands(t *testing.T, what string, p *lock.Pair, stamp, zero, one int64) {
	t.Helper()
	got, why := p.Start()
	if stamp%2 == 0 && (got != stamp || why != api.OK) {
		t.Fatalf("%s: Start() = %d, %d, want %d", what, got, why, stamp)
	}
	if stamp%2 != 0 && (got != 0 || why != api.ErrBusy) {
		t.Fatalf("%s: Start() = %d, %d, want 0, %d", what, got, why, api.ErrBusy)
	}
	if p.Get(0) != zero || p.Get(1) != one {
		t.Fatalf("%s: %d and %d, want %d and %d", what, p.Get(0), p.Get(1), zero, one)
	}
	for _, at := range []int{math.MinInt, -2, -1, 2, 3, 64, 1 << 32, math.MaxInt} {
		if n := p.Get(at); n != 0 {
			t.Fatalf("%s: Get(%d) = %d", what, at, n)
		}
	}
	if p.Again(stamp) {
		t.Fatalf("%s: Again(%d), which is the stamp, = true", what, stamp)
	}
	for _, other := range []int64{math.MinInt64, -stamp - 1, -1, stamp - 2, stamp - 1, stamp + 1, stamp + 2, stamp + 1<<32, math.MaxInt64} {
		if other != stamp && !p.Again(other) {
			t.Fatalf("%s: Again(%d) = false, the stamp is %d", what, other, stamp)
		}
	}
}

func TestPairIsZeroAtFirst(t *testing.T) {
	var p lock.Pair
	stands(t, "zero value", &p, 0, 0, 0)
	for _, cpu := range []int{0, 1, 63} {
		puts(t, &p, cpu, 0, 5, api.ErrOwner)
		puts(t, &p, cpu, 1, 5, api.ErrOwner)
		ends(t, &p, cpu, api.ErrOwner)
	}
	stands(t, "refused", &p, 0, 0, 0)
}

func TestOneCoreWrites(t *testing.T) {
	for _, cpu := range []int{0, 1, 62, 63} {
		p := &lock.Pair{}
		begins(t, p, cpu, api.OK)
		stands(t, "begun", p, 1, 0, 0)
		puts(t, p, cpu, 0, 5, api.OK)
		stands(t, "half", p, 1, 5, 0)
		puts(t, p, cpu, 1, -6, api.OK)
		puts(t, p, cpu, 0, 7, api.OK)
		stands(t, "both", p, 1, 7, -6)
		ends(t, p, cpu, api.OK)
		stands(t, "done", p, 2, 7, -6)
		puts(t, p, cpu, 0, 8, api.ErrOwner)
		ends(t, p, cpu, api.ErrOwner)
		stands(t, "refused", p, 2, 7, -6)
	}
}

func TestBeginWhileACoreWrites(t *testing.T) {
	for _, writer := range []int{0, 5, 63} {
		p := &lock.Pair{}
		begins(t, p, writer, api.OK)
		for cpu := range api.MaxCpu {
			begins(t, p, cpu, api.ErrBusy)
			if cpu != writer {
				puts(t, p, cpu, 0, 9, api.ErrOwner)
				puts(t, p, cpu, 1, 9, api.ErrOwner)
				ends(t, p, cpu, api.ErrOwner)
			}
		}
		stands(t, "refused", p, 1, 0, 0)
		puts(t, p, writer, 1, 4, api.OK)
		ends(t, p, writer, api.OK)
		stands(t, "done", p, 2, 0, 4)
		next := 63 - writer
		begins(t, p, next, api.OK)
		puts(t, p, writer, 1, 9, api.ErrOwner)
		ends(t, p, writer, api.ErrOwner)
		stands(t, "the next one writes", p, 3, 0, 4)
		ends(t, p, next, api.OK)
		stands(t, "nothing was put", p, 4, 0, 4)
	}
}

func TestPairRefusesWhatIsNoCoreOrNoPlace(t *testing.T) {
	free, busy := &lock.Pair{}, &lock.Pair{}
	begins(t, busy, 0, api.OK)
	for _, cpu := range noCores {
		for _, p := range []*lock.Pair{free, busy} {
			begins(t, p, cpu, api.ErrRange)
			ends(t, p, cpu, api.ErrRange)
			puts(t, p, cpu, 0, 9, api.ErrRange)
			puts(t, p, cpu, 2, 9, api.ErrRange)
		}
	}
	for _, at := range []int{math.MinInt, -2, -1, 2, 3, 64, 1 << 32, 1<<32 + 1, math.MaxInt} {
		// The place is looked at ahead of the writer: for cores that do not write, too.
		for _, cpu := range []int{0, 1, 63} {
			puts(t, free, cpu, at, 9, api.ErrRange)
			puts(t, busy, cpu, at, 9, api.ErrRange)
		}
	}
	stands(t, "refused", free, 0, 0, 0)
	stands(t, "refused", busy, 1, 0, 0)
	ends(t, busy, 0, api.OK)
}

func TestNumbersOfAnySize(t *testing.T) {
	p := &lock.Pair{}
	begins(t, p, 3, api.OK)
	for _, n := range []int64{math.MaxInt64, math.MinInt64, -1, 0, 1, 1 << 32, 1<<53 + 1} {
		puts(t, p, 3, 0, n, api.OK)
		puts(t, p, 3, 1, -n-1, api.OK)
		stands(t, "put", p, 1, n, -n-1)
	}
}

// TestReadBetweenWrites reads at each point of many writes: what Again lets stand is what one writer left.
func TestReadBetweenWrites(t *testing.T) {
	p := &lock.Pair{}
	kinds := 4 // a reader's two looks fall anywhere among a write's four calls
	for n := range int64(40) {
		cpu := int(n*13) % api.MaxCpu
		write := []func() api.Errno{
			func() api.Errno { return p.Begin(cpu) },
			func() api.Errno { return p.Put(cpu, 0, n+1) },
			func() api.Errno { return p.Put(cpu, 1, -n-1) },
			func() api.Errno { return p.End(cpu) },
		}
		first, second := int(n)%(kinds+1), int(n)/(kinds+1)%(kinds+1)
		if first > second {
			first, second = second, first
		}
		do := func(from, to int) {
			for k := from; k < to; k++ {
				if why := write[k](); why != api.OK {
					t.Fatalf("call %d of write %d = %d", k, n, why)
				}
			}
		}
		do(0, first)
		stamp, why := p.Start()
		zero := p.Get(0)
		do(first, second)
		one := p.Get(1)
		whole := why == api.OK && !p.Again(stamp)
		do(second, kinds)
		if wantBusy := first > 0 && first < kinds; (why == api.ErrBusy) != wantBusy {
			t.Fatalf("Start() behind %d calls of a write = %d", first, why)
		}
		if (why == api.OK && first == second) != whole {
			t.Fatalf("read from %d to %d calls of a write: whole %v", first, second, whole)
		}
		if whole && zero != -one {
			t.Fatalf("read from %d to %d calls of a write: %d and %d", first, second, zero, one)
		}
		stands(t, "written", p, 2*n+2, n+1, -n-1)
	}
}

func TestTwoPairsShareNothing(t *testing.T) {
	a, b := &lock.Pair{}, &lock.Pair{}
	begins(t, a, 1, api.OK)
	puts(t, a, 1, 0, 5, api.OK)
	begins(t, b, 2, api.OK)
	puts(t, b, 2, 1, 6, api.OK)
	ends(t, b, 2, api.OK)
	stands(t, "the one", a, 1, 5, 0)
	stands(t, "the other", b, 2, 0, 6)
}

func TestNilPair(t *testing.T) {
	var p *lock.Pair
	for _, cpu := range append([]int{0, 1, 63}, noCores...) {
		begins(t, p, cpu, api.ErrNil)
		ends(t, p, cpu, api.ErrNil)
		for _, at := range []int{math.MinInt, -1, 0, 1, 2, math.MaxInt} {
			puts(t, p, cpu, at, 5, api.ErrNil)
			if n := p.Get(at); n != 0 {
				t.Errorf("Get(%d) = %d", at, n)
			}
		}
	}
	if stamp, why := p.Start(); stamp != 0 || why != api.ErrNil {
		t.Errorf("Start() = %d, %d", stamp, why)
	}
	for _, stamp := range []int64{math.MinInt64, -1, 0, 1, math.MaxInt64} {
		if !p.Again(stamp) {
			t.Errorf("Again(%d) = false", stamp)
		}
	}
}
