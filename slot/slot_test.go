package slot_test

import (
	"math"
	"slices"
	"testing"

	"davit/api"
	"davit/slot"
)

// made is a table of most numbers, of which the first so many are given out.
func made(t *testing.T, most, taken int) *slot.Table {
	t.Helper()
	s, why := slot.New(most)
	if why != api.OK || s == nil {
		t.Fatalf("New(%d) = %v, %d", most, s, why)
	}
	for n := range taken {
		takes(t, s, n+1, api.OK)
	}
	return s
}

func takes(t *testing.T, s *slot.Table, want int, wantWhy api.Errno) {
	t.Helper()
	if n, why := s.Take(); n != want || why != wantWhy {
		t.Fatalf("of %d: Take() = %d, %d, want %d, %d", s.Cap(), n, why, want, wantWhy)
	}
}

func gives(t *testing.T, s *slot.Table, n int, want api.Errno) {
	t.Helper()
	if why := s.Give(n); why != want {
		t.Fatalf("of %d: Give(%d) = %d, want %d", s.Cap(), n, why, want)
	}
}

// holds says that the table is as it must be, by each call that only looks.
func holds(t *testing.T, what string, s *slot.Table, most int, want ...int) {
	t.Helper()
	if l := s.List(); !slices.Equal(l, want) {
		t.Fatalf("%s: List() = %v, want %v", what, l, want)
	}
	if s.Len() != len(want) || s.Cap() != most {
		t.Fatalf("%s: Len() = %d, Cap() = %d, want %d, %d", what, s.Len(), s.Cap(), len(want), most)
	}
	out := map[int]bool{}
	for _, n := range want {
		out[n] = true
	}
	for n := -2; n < most+130; n++ {
		if s.Has(n) != out[n] {
			t.Fatalf("%s: Has(%d) = %v", what, n, s.Has(n))
		}
	}
}

func upto(n int) []int {
	list := []int{}
	for k := range n {
		list = append(list, k+1)
	}
	return list
}

// sizes are those at the edges of a table and of a word.
func sizes() []int {
	return []int{1, 2, 63, 64, 65, 127, 128, 129, 192, 1023, 1024}
}

// strangers are numbers that no table of these sizes has.
func strangers(most int) []int {
	return []int{math.MinInt, math.MinInt + 1, -1 << 32, -1024, -65, -64, -63, -2, -1, 0, most + 1, most + 2, most + 63, most + 64, most + 1024, 1025, 1 << 31, 1 << 32, 1<<32 + 1, math.MaxInt - 1, math.MaxInt}
}

func TestNewTellsWhichSizesThereAre(t *testing.T) {
	for _, most := range []int{math.MinInt, -1025, -1024, -64, -1, 0, 1025, 1026, 2048, 1 << 32, 1<<32 + 1, math.MaxInt} {
		if s, why := slot.New(most); s != nil || why != api.ErrArg {
			t.Errorf("New(%d) = %v, %d, want nil, %d", most, s, why, api.ErrArg)
		}
	}
	for _, most := range sizes() {
		holds(t, "new", made(t, most, 0), most)
	}
}

func TestTakeGivesOutEachOnce(t *testing.T) {
	for _, most := range sizes() {
		s := made(t, most, 0)
		for n := range most {
			takes(t, s, n+1, api.OK)
			if s.Len() != n+1 || !s.Has(n+1) || s.Has(n+2) {
				t.Fatalf("of %d: Len() = %d behind %d", most, s.Len(), n+1)
			}
		}
		for range 3 {
			takes(t, s, 0, api.ErrFull)
		}
		holds(t, "full", s, most, upto(most)...)
	}
}

func TestGiveRefusesWhatIsNotGivenOut(t *testing.T) {
	for _, most := range sizes() {
		for _, taken := range []int{0, 1, most / 2, most} {
			s := made(t, most, taken)
			for _, n := range strangers(most) {
				gives(t, s, n, api.ErrNone)
				if s.Has(n) {
					t.Fatalf("of %d: Has(%d) = true", most, n)
				}
			}
			for n := taken + 1; n <= most; n++ {
				gives(t, s, n, api.ErrNone)
			}
			holds(t, "refused", s, most, upto(taken)...)
			if taken < most {
				takes(t, s, taken+1, api.OK)
			} else {
				takes(t, s, 0, api.ErrFull)
			}
		}
	}
}

// TestEachNumberComesBack gives one of a full table back, which is the one that is taken next.
func TestEachNumberComesBack(t *testing.T) {
	for _, most := range []int{1, 63, 64, 65, 130} {
		s := made(t, most, most)
		for n := 1; n <= most; n++ {
			gives(t, s, n, api.OK)
			want := slices.Delete(upto(most), n-1, n)
			holds(t, "given back", s, most, want...)
			gives(t, s, n, api.ErrNone)
			holds(t, "refused", s, most, want...)
			takes(t, s, n, api.OK)
			takes(t, s, 0, api.ErrFull)
			holds(t, "taken again", s, most, upto(most)...)
		}
	}
}

func TestTakeIsTheLowest(t *testing.T) {
	s := made(t, 2, 2)
	gives(t, s, 1, api.OK)
	takes(t, s, 1, api.OK)
	s = made(t, 1024, 1024)
	back := []int{1024, 64, 65, 960, 1, 63, 128, 961, 1023, 129}
	for _, n := range back {
		gives(t, s, n, api.OK)
	}
	slices.Sort(back)
	for _, n := range back {
		takes(t, s, n, api.OK)
	}
	takes(t, s, 0, api.ErrFull)
	s = made(t, 200, 100)
	gives(t, s, 64, api.OK)
	takes(t, s, 64, api.OK)
	takes(t, s, 101, api.OK)
}

// TestAgainstAPlainSet does long mixed runs of calls, by a fixed rule.
func TestAgainstAPlainSet(t *testing.T) {
	state := uint64(7)
	draw := func(n int) int {
		state = state*6364136223846793005 + 1442695040888963407
		return int((state >> 33) % uint64(n))
	}
	for _, most := range []int{1, 2, 5, 63, 64, 65, 130} {
		s, out := made(t, most, 0), []int{}
		for range 3000 {
			if draw(100) < 55 {
				want := lowest(out, most)
				if want == 0 {
					takes(t, s, 0, api.ErrFull)
					continue
				}
				takes(t, s, want, api.OK)
				out = append(out, want)
				slices.Sort(out)
			} else {
				n := draw(most+4) - 1
				k, there := slices.BinarySearch(out, n)
				if there {
					gives(t, s, n, api.OK)
					out = slices.Delete(out, k, k+1)
				} else {
					gives(t, s, n, api.ErrNone)
				}
			}
			holds(t, "mixed", s, most, out...)
		}
	}
}

// lowest is the lowest one that is free; 0, if none is.
func lowest(out []int, most int) int {
	for n := 1; n <= most; n++ {
		if !slices.Contains(out, n) {
			return n
		}
	}
	return 0
}

func TestTwoTablesShareNothing(t *testing.T) {
	a, b := made(t, 70, 70), made(t, 70, 2)
	gives(t, a, 2, api.OK)
	takes(t, b, 3, api.OK)
	holds(t, "the one", a, 70, slices.Delete(upto(70), 1, 2)...)
	holds(t, "the other", b, 70, 1, 2, 3)
}

func TestListIsTheCallersOwn(t *testing.T) {
	s := made(t, 70, 66)
	one, two := s.List(), s.List()
	for k := range one {
		one[k] = 70
	}
	_ = append(one, 68, 69)
	if !slices.Equal(two, upto(66)) {
		t.Errorf("a list was changed by another: %v", two)
	}
	holds(t, "written into", s, 70, upto(66)...)
	takes(t, s, 67, api.OK)
	gives(t, s, 1, api.OK)
	if !slices.Equal(two, upto(66)) {
		t.Errorf("a list was changed by the table: %v", two)
	}
}

// none says what a table that has no numbers, or is not there, answers.
func none(t *testing.T, s *slot.Table, take, give api.Errno) {
	t.Helper()
	if n, why := s.Take(); n != 0 || why != take {
		t.Errorf("Take() = %d, %d, want 0, %d", n, why, take)
	}
	for _, n := range append(strangers(0), 1, 64, 65) {
		if why := s.Give(n); why != give {
			t.Errorf("Give(%d) = %d, want %d", n, why, give)
		}
		if s.Has(n) {
			t.Errorf("Has(%d) = true", n)
		}
	}
	if s.Len() != 0 || s.Cap() != 0 || len(s.List()) != 0 {
		t.Errorf("Len() = %d, Cap() = %d, List() = %v", s.Len(), s.Cap(), s.List())
	}
}

func TestNilTable(t *testing.T) {
	none(t, nil, api.ErrNil, api.ErrNil)
}

func TestTableThatNewDidNotMake(t *testing.T) {
	none(t, &slot.Table{}, api.ErrFull, api.ErrNone)
}
