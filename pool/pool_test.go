package pool_test

import (
	"math"
	"testing"

	"davit/api"
	"davit/pool"
)

// noObjects are numbers that no object has, in a pool of any size.
var noObjects = []int{math.MinInt, -1 << 32, -97, -8, -1, 0, 97, 98, 104, 256, 257, 1 << 32, 1<<32 + 1, math.MaxInt}

// made is a pool of so many pages of which so many objects are taken.
func made(t *testing.T, pages, taken int) *pool.Pool {
	t.Helper()
	p, why := pool.New(pages)
	if why != api.OK || p == nil {
		t.Fatalf("New(%d) = %v, %d", pages, p, why)
	}
	for id := 1; id <= taken; id++ {
		takes(t, p, id)
	}
	return p
}

func takes(t *testing.T, p *pool.Pool, want int) {
	t.Helper()
	if id, why := p.Take(); id != want || why != api.OK {
		t.Fatalf("Take() = %d, %d, want %d, %d", id, why, want, api.OK)
	}
}

func takesNone(t *testing.T, p *pool.Pool, want api.Errno) {
	t.Helper()
	if id, why := p.Take(); id != 0 || why != want {
		t.Fatalf("Take() = %d, %d, want 0, %d", id, why, want)
	}
}

func gives(t *testing.T, p *pool.Pool, id int, want api.Errno) {
	t.Helper()
	if why := p.Give(id); why != want {
		t.Fatalf("Give(%d) = %d, want %d", id, why, want)
	}
}

func pages(t *testing.T, p *pool.Pool, empty, part, full int) {
	t.Helper()
	if a, b, c := p.Pages(); a != empty || b != part || c != full {
		t.Fatalf("Pages() = %d, %d, %d, want %d, %d, %d", a, b, c, empty, part, full)
	}
}

// plain is what a pool must be: which objects are taken, one by one.
type plain struct {
	count int
	taken map[int]bool
}

// inPage is how many objects of a page are taken.
func (p *plain) inPage(page int) int {
	n := 0
	for id := page*8 + 1; id <= page*8+8; id++ {
		if p.taken[id] {
			n++
		}
	}
	return n
}

// next is what Take must answer: 0 if no object is free.
func (p *plain) next() int {
	for _, inPart := range []bool{true, false} {
		for page := range p.count {
			n := p.inPage(page)
			if n == 8 || inPart != (n > 0) {
				continue
			}
			for id := page*8 + 1; id <= page*8+8; id++ {
				if !p.taken[id] {
					return id
				}
			}
		}
	}
	return 0
}

// holds says that the pool is as the plain one, by each call that only looks.
func (p *plain) holds(t *testing.T, what string, got *pool.Pool) {
	t.Helper()
	for id := -1; id <= 105; id++ {
		if got.Out(id) != p.taken[id] {
			t.Fatalf("%s: Out(%d) = %v", what, id, got.Out(id))
		}
	}
	var kinds [3]int
	for page := range p.count {
		switch p.inPage(page) {
		case 0:
			kinds[0]++
		case 8:
			kinds[2]++
		default:
			kinds[1]++
		}
	}
	pages(t, got, kinds[0], kinds[1], kinds[2])
	if want := p.count*8 - len(p.taken); got.Free() != want {
		t.Fatalf("%s: Free() = %d, want %d", what, got.Free(), want)
	}
}

// holds says that of a pool of so many pages these objects are taken, and no others.
func holds(t *testing.T, what string, p *pool.Pool, count int, taken ...int) {
	t.Helper()
	want := &plain{count, map[int]bool{}}
	for _, id := range taken {
		want.taken[id] = true
	}
	want.holds(t, what, p)
}

// upTo are the objects from 1 on.
func upTo(last int) []int {
	list := make([]int, last)
	for i := range list {
		list[i] = i + 1
	}
	return list
}

func TestPageHasEightObjects(t *testing.T) {
	if pool.Page != 8 {
		t.Errorf("Page = %d", pool.Page)
	}
}

func TestNewTellsHowManyPagesThereMayBe(t *testing.T) {
	for _, count := range []int{math.MinInt, -13, -12, -1, 0, 13, 14, 24, 256, 257, 1 << 32, 1<<32 + 1, math.MaxInt} {
		if p, why := pool.New(count); p != nil || why != api.ErrArg {
			t.Errorf("New(%d) = %v, %d, want nil, %d", count, p, why, api.ErrArg)
		}
	}
	for count := 1; count <= 12; count++ {
		p := made(t, count, 0)
		holds(t, "new", p, count)
		pages(t, p, count, 0, 0)
	}
}

func TestTakeTillNoObjectIsFree(t *testing.T) {
	for count := 1; count <= 12; count++ {
		p := made(t, count, 0)
		for last := 1; last <= count*8; last++ {
			takes(t, p, last)
			holds(t, "taken", p, count, upTo(last)...)
		}
		for range 3 {
			takesNone(t, p, api.ErrFull)
		}
		holds(t, "refused", p, count, upTo(count*8)...)
		pages(t, p, 0, 0, count)
		gives(t, p, count*8, api.OK)
		takes(t, p, count*8)
		takesNone(t, p, api.ErrFull)
	}
}

func TestTakeOfTheDocument(t *testing.T) {
	p := made(t, 2, 9)
	gives(t, p, 3, api.OK)
	takes(t, p, 3)
	takes(t, p, 10)
}

func TestTakeWhileOnePageIsInPart(t *testing.T) {
	// The first page is empty again, and the second one in part: it goes ahead, and by its lowest object.
	p := made(t, 3, 16)
	for id := 1; id <= 8; id++ {
		gives(t, p, id, api.OK)
	}
	for _, id := range []int{16, 9, 12} {
		gives(t, p, id, api.OK)
	}
	pages(t, p, 2, 1, 0)
	for _, want := range []int{9, 12, 16} {
		takes(t, p, want)
	}
	pages(t, p, 2, 0, 1)
	takes(t, p, 1)
	takes(t, p, 2)
	pages(t, p, 1, 1, 1)
}

func TestTakeWhileSeveralPagesAreInPart(t *testing.T) {
	p := made(t, 4, 32)
	for _, id := range []int{32, 25, 24, 17, 8, 7} {
		gives(t, p, id, api.OK)
	}
	pages(t, p, 0, 3, 1)
	for _, want := range []int{7, 8, 17, 24, 25, 32} {
		takes(t, p, want)
	}
	takesNone(t, p, api.ErrFull)
}

func TestTakeWhileNoPageIsInPart(t *testing.T) {
	// The second page and the fourth one are empty, the others full.
	p := made(t, 4, 32)
	for id := 25; id <= 32; id++ {
		gives(t, p, id, api.OK)
		gives(t, p, id-16, api.OK)
	}
	pages(t, p, 2, 0, 2)
	for want := 9; want <= 16; want++ {
		takes(t, p, want)
	}
	pages(t, p, 1, 0, 3)
	for want := 25; want <= 32; want++ {
		takes(t, p, want)
	}
	takesNone(t, p, api.ErrFull)
}

func TestGiveOfObjectsAtTheEndsOfPages(t *testing.T) {
	const count = 12
	for page := range count {
		for _, id := range []int{page*8 + 1, page*8 + 8} {
			p := made(t, count, count*8)
			gives(t, p, id, api.OK)
			pages(t, p, 0, 1, count-1)
			if p.Out(id) || p.Free() != 1 {
				t.Errorf("behind Give(%d): Out is %v, Free is %d", id, p.Out(id), p.Free())
			}
			for other := 1; other <= count*8; other++ {
				if other != id && !p.Out(other) {
					t.Errorf("Give(%d) gave %d, too", id, other)
				}
			}
			gives(t, p, id, api.ErrNone)
			takes(t, p, id)
			holds(t, "taken again", p, count, upTo(count*8)...)
		}
	}
}

func TestGiveOfWhatIsNotTaken(t *testing.T) {
	for _, count := range []int{1, 2, 11, 12} {
		taken := count*8 - 3
		p := made(t, count, taken)
		for _, id := range noObjects {
			gives(t, p, id, api.ErrNone)
			if p.Out(id) {
				t.Errorf("Out(%d) = true", id)
			}
		}
		// Those that are free, and those beyond the last page.
		for id := taken + 1; id <= 110; id++ {
			gives(t, p, id, api.ErrNone)
		}
		holds(t, "refused", p, count, upTo(taken)...)
		gives(t, p, 1, api.OK)
		gives(t, p, 1, api.ErrNone)
		holds(t, "given", p, count, upTo(taken)[1:]...)
		takes(t, p, 1)
		gives(t, p, 1, api.OK)
	}
	fresh := made(t, 3, 0)
	for id := 1; id <= 24; id++ {
		gives(t, fresh, id, api.ErrNone)
	}
	holds(t, "refused", fresh, 3)
}

func TestPageGoesFromEmptyToFullAndBack(t *testing.T) {
	p := made(t, 2, 0)
	for n := 1; n <= 8; n++ {
		takes(t, p, n)
		if n < 8 {
			pages(t, p, 1, 1, 0)
		}
		if p.Free() != 16-n {
			t.Errorf("Free() = %d behind %d", p.Free(), n)
		}
	}
	pages(t, p, 1, 0, 1)
	for n, id := range []int{5, 1, 8, 2, 7, 3, 6, 4} {
		gives(t, p, id, api.OK)
		if n < 7 {
			pages(t, p, 1, 1, 0)
		}
		if p.Free() != 9+n {
			t.Errorf("Free() = %d behind %d", p.Free(), n)
		}
	}
	pages(t, p, 2, 0, 0)
	takes(t, p, 1)
}

// TestMixedRuns holds long runs against the plain pool: what is taken is not taken again till it is given back, and a page is begun only when no other one is in part.
func TestMixedRuns(t *testing.T) {
	state := uint64(11)
	below := func(n int) int {
		state = state*6364136223846793005 + 1442695040888963407
		return int((state >> 33) % uint64(n))
	}
	for _, count := range []int{1, 2, 3, 7, 12} {
		p := made(t, count, 0)
		want := &plain{count, map[int]bool{}}
		taking := true
		for range 4000 {
			// Long tides, so that pages become full and empty again.
			if below(count*8) == 0 {
				taking = !taking
			}
			if taking != (below(4) == 0) {
				next := want.next()
				if next == 0 {
					takesNone(t, p, api.ErrFull)
					continue
				}
				_, part, _ := p.Pages()
				if part > 0 && want.inPage((next-1)/8) == 0 {
					t.Fatalf("a page is begun while %d are in part", part)
				}
				takes(t, p, next)
				want.taken[next] = true
			} else {
				id := below(count*8+2) - 1
				if !want.taken[id] {
					gives(t, p, id, api.ErrNone)
				} else {
					gives(t, p, id, api.OK)
					delete(want.taken, id)
				}
			}
			want.holds(t, "mixed", p)
		}
	}
}

func TestTwoPoolsShareNothing(t *testing.T) {
	a, b := made(t, 2, 3), made(t, 1, 1)
	gives(t, a, 1, api.OK)
	takes(t, b, 2)
	holds(t, "the one", a, 2, 2, 3)
	holds(t, "the other", b, 1, 1, 2)
}

// none says what a pool that has no pages, or is not there, answers.
func none(t *testing.T, p *pool.Pool, take, give api.Errno) {
	t.Helper()
	for _, id := range append([]int{1, 8, 96}, noObjects...) {
		gives(t, p, id, give)
		if p.Out(id) {
			t.Errorf("Out(%d) = true", id)
		}
	}
	takesNone(t, p, take)
	pages(t, p, 0, 0, 0)
	if p.Free() != 0 {
		t.Errorf("Free() = %d", p.Free())
	}
}

func TestNilPool(t *testing.T) {
	none(t, nil, api.ErrNil, api.ErrNil)
}

func TestPoolThatNewDidNotMake(t *testing.T) {
	none(t, &pool.Pool{}, api.ErrFull, api.ErrNone)
}
