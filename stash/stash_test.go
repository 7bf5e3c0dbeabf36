package stash_test

import (
	"math"
	"slices"
	"testing"

	"davit/api"
	"davit/stash"
)

// noCores are numbers that no core has, noObjects such that no object has.
var (
	noCores   = []int{math.MinInt, -1 << 32, -64, -1, 64, 65, 1 << 32, 1<<32 + 1, math.MaxInt}
	noObjects = []int{math.MinInt, -1 << 32, -97, -8, -1, 0, 97, 98, 104, 1 << 32, 1<<32 + 1, math.MaxInt}
)

func made(t *testing.T, cpus, pages int) *stash.Stash {
	t.Helper()
	s, why := stash.New(cpus, pages)
	if why != api.OK || s == nil {
		t.Fatalf("New(%d, %d) = %v, %d", cpus, pages, s, why)
	}
	return s
}

// allocs says which objects a core is handed, one behind the other.
func allocs(t *testing.T, s *stash.Stash, cpu int, want ...int) {
	t.Helper()
	for i, one := range want {
		if id, why := s.Alloc(cpu); id != one || why != api.OK {
			t.Fatalf("Alloc(%d), number %d = %d, %d, want %d, %d", cpu, i, id, why, one, api.OK)
		}
	}
}

func allocsNone(t *testing.T, s *stash.Stash, cpu int, want api.Errno) {
	t.Helper()
	if id, why := s.Alloc(cpu); id != 0 || why != want {
		t.Fatalf("Alloc(%d) = %d, %d, want 0, %d", cpu, id, why, want)
	}
}

func gives(t *testing.T, s *stash.Stash, cpu int, want api.Errno, ids ...int) {
	t.Helper()
	for _, id := range ids {
		if why := s.Give(cpu, id); why != want {
			t.Fatalf("Give(%d, %d) = %d, want %d", cpu, id, why, want)
		}
	}
}

func drains(t *testing.T, s *stash.Stash, cpu, want int, wantWhy api.Errno) {
	t.Helper()
	if n, why := s.Drain(cpu); n != want || why != wantWhy {
		t.Fatalf("Drain(%d) = %d, %d, want %d, %d", cpu, n, why, want, wantWhy)
	}
}

// holds says that the stash is as it must be, by each call that only looks.
func holds(t *testing.T, what string, s *stash.Stash, free int, out []int, kept ...[]int) {
	t.Helper()
	if s.Free() != free {
		t.Fatalf("%s: Free() = %d, want %d", what, s.Free(), free)
	}
	if l := s.Out(); !slices.Equal(l, out) {
		t.Fatalf("%s: Out() = %v, want %v", what, l, out)
	}
	for id := -1; id <= 105; id++ {
		if s.Has(id) != slices.Contains(out, id) {
			t.Fatalf("%s: Has(%d) = %v", what, id, s.Has(id))
		}
	}
	for cpu, want := range kept {
		if l := s.Kept(cpu); !slices.Equal(l, want) {
			t.Fatalf("%s: Kept(%d) = %v, want %v", what, cpu, l, want)
		}
	}
	for _, cpu := range append([]int{len(kept)}, noCores...) {
		if l := s.Kept(cpu); len(l) != 0 {
			t.Fatalf("%s: Kept(%d) = %v", what, cpu, l)
		}
	}
}

// list spells a list of objects.
func list(ids ...int) []int { return ids }

func TestNewTellsWhichStashesThereMayBe(t *testing.T) {
	for _, cpus := range []int{math.MinInt, -64, -1, 0, 65, 66, 128, 1 << 32, 1<<32 + 1, math.MaxInt} {
		for _, pages := range []int{-1, 0, 1, 12, 13} {
			if s, why := stash.New(cpus, pages); s != nil || why != api.ErrArg {
				t.Errorf("New(%d, %d) = %v, %d, want nil, %d", cpus, pages, s, why, api.ErrArg)
			}
		}
	}
	for _, pages := range []int{math.MinInt, -12, -1, 0, 13, 14, 257, 1<<32 + 1, math.MaxInt} {
		for _, cpus := range []int{1, 2, 64} {
			if s, why := stash.New(cpus, pages); s != nil || why != api.ErrArg {
				t.Errorf("New(%d, %d) = %v, %d, want nil, %d", cpus, pages, s, why, api.ErrArg)
			}
		}
	}
	for _, cpus := range []int{1, 2, 63, 64} {
		for _, pages := range []int{1, 2, 11, 12} {
			s := made(t, cpus, pages)
			holds(t, "new", s, pages*8, nil, make([][]int, cpus)...)
			allocs(t, s, cpus-1, 2, 1)
			allocsNone(t, s, cpus, api.ErrRange)
		}
	}
}

func TestAllocOfTheDocument(t *testing.T) {
	s := made(t, 2, 1)
	allocs(t, s, 0, 2)
	holds(t, "the first one", s, 6, list(2), list(1), nil)
	allocs(t, s, 0, 1)
	holds(t, "the second one", s, 6, list(1, 2), nil, nil)
}

func TestAllocByCoresThatKeepNone(t *testing.T) {
	s := made(t, 3, 1)
	allocs(t, s, 0, 2)
	allocs(t, s, 2, 4)
	holds(t, "many are free", s, 4, list(2, 4), list(1), nil, list(3))
	allocs(t, s, 1, 6)
	holds(t, "two are left", s, 2, list(2, 4, 6), list(1), list(5), list(3))
	allocs(t, s, 1, 5, 8)
	holds(t, "none is left", s, 0, list(2, 4, 5, 6, 8), list(1), list(7), list(3))
	allocs(t, s, 1, 7)
	for range 3 {
		allocsNone(t, s, 1, api.ErrFull)
	}
	// What other cores keep is not fetched; a core that keeps some is handed it while the pool has none.
	holds(t, "refused", s, 0, list(2, 4, 5, 6, 7, 8), list(1), nil, list(3))
	allocs(t, s, 0, 1)
	allocsNone(t, s, 0, api.ErrFull)
	allocs(t, s, 2, 3)
	holds(t, "all are handed out", s, 0, list(1, 2, 3, 4, 5, 6, 7, 8), nil, nil, nil)
}

func TestAllocWhileOneObjectIsFree(t *testing.T) {
	s := made(t, 2, 1)
	allocs(t, s, 0, 2, 1, 4, 3, 6, 5, 8, 7)
	gives(t, s, 0, api.OK, 5)
	drains(t, s, 0, 1, api.OK)
	holds(t, "one is free", s, 1, list(1, 2, 3, 4, 6, 7, 8), nil, nil)
	allocs(t, s, 1, 5)
	holds(t, "none is free", s, 0, list(1, 2, 3, 4, 5, 6, 7, 8), nil, nil)
	allocsNone(t, s, 1, api.ErrFull)
	allocsNone(t, s, 0, api.ErrFull)
	gives(t, s, 0, api.OK, 5, 2)
	drains(t, s, 0, 2, api.OK)
	allocs(t, s, 1, 5)
	holds(t, "two were free", s, 0, list(1, 3, 4, 5, 6, 7, 8), nil, list(2))
}

func TestAllocByCoreThatKeepsSome(t *testing.T) {
	s := made(t, 1, 1)
	allocs(t, s, 0, 2, 1, 4, 3)
	gives(t, s, 0, api.OK, 3, 1, 4, 2)
	holds(t, "given", s, 4, nil, list(3, 1, 4, 2))
	// The last one first, and nothing is fetched while one is kept.
	allocs(t, s, 0, 2, 4, 1, 3)
	holds(t, "handed out again", s, 4, list(1, 2, 3, 4), nil)
	allocs(t, s, 0, 6)
	holds(t, "fetched", s, 2, list(1, 2, 3, 4, 6), list(5))
}

func TestGive(t *testing.T) {
	s := made(t, 2, 1)
	allocs(t, s, 0, 2, 1, 4, 3, 6, 5, 8, 7)
	gives(t, s, 1, api.OK, 7)
	holds(t, "it kept none", s, 0, list(1, 2, 3, 4, 5, 6, 8), nil, list(7))
	gives(t, s, 1, api.OK, 2, 5)
	holds(t, "it kept two", s, 0, list(1, 3, 4, 6, 8), nil, list(7, 2, 5))
	gives(t, s, 1, api.OK, 1)
	holds(t, "it kept three", s, 0, list(3, 4, 6, 8), nil, list(7, 2, 5, 1))
	gives(t, s, 1, api.OK, 8)
	holds(t, "it kept four", s, 2, list(3, 4, 6), nil, list(5, 1, 8))
	gives(t, s, 1, api.OK, 3)
	holds(t, "it kept three again", s, 2, list(4, 6), nil, list(5, 1, 8, 3))
	gives(t, s, 1, api.OK, 6)
	holds(t, "it kept four again", s, 4, list(4), nil, list(8, 3, 6))
	gives(t, s, 0, api.OK, 4)
	holds(t, "another core", s, 4, nil, list(4), list(8, 3, 6))
	// Those that went back are free in the pool: 7, 2, 5, 1.
	drains(t, s, 0, 1, api.OK)
	allocs(t, s, 0, 2, 1, 5, 4, 7)
	holds(t, "the pool's again", s, 0, list(1, 2, 4, 5, 7), nil, list(8, 3, 6))
	allocsNone(t, s, 0, api.ErrFull)
}

func TestGiveOfWhatIsNotHandedOut(t *testing.T) {
	s := made(t, 2, 1)
	allocs(t, s, 0, 2)
	allocs(t, s, 1, 4)
	check := func() { t.Helper(); holds(t, "refused", s, 4, list(2, 4), list(1), list(3)) }
	for cpu := range 2 {
		// 1 is kept by core 0, 3 by core 1, the others are free, or there are none such.
		gives(t, s, cpu, api.ErrNone, 1, 3, 5, 6, 7, 8, 9, 16, 96)
		gives(t, s, cpu, api.ErrNone, noObjects...)
		check()
	}
	for _, id := range noObjects {
		if s.Has(id) {
			t.Errorf("Has(%d) = true", id)
		}
	}
	gives(t, s, 1, api.OK, 2)
	gives(t, s, 1, api.ErrNone, 2)
	gives(t, s, 0, api.ErrNone, 2)
	holds(t, "given once", s, 4, list(4), list(1), list(3, 2))
}

// TestGiveThatIsRefusedByFullCore: a core that keeps four gives none of them back for an object that is not handed out.
func TestGiveThatIsRefusedByFullCore(t *testing.T) {
	s := made(t, 1, 1)
	allocs(t, s, 0, 2, 1, 4, 3, 6)
	gives(t, s, 0, api.OK, 1, 2, 3)
	gives(t, s, 0, api.ErrNone, 1, 2, 3, 5, 7, 0, -1, 9)
	holds(t, "refused", s, 2, list(4, 6), list(5, 1, 2, 3))
}

func TestDrain(t *testing.T) {
	s := made(t, 3, 2)
	drains(t, s, 0, 0, api.OK)
	holds(t, "it kept none", s, 16, nil, nil, nil, nil)
	allocs(t, s, 0, 2)
	allocs(t, s, 1, 4)
	drains(t, s, 1, 1, api.OK)
	holds(t, "it kept one", s, 13, list(2, 4), list(1), nil, nil)
	drains(t, s, 1, 0, api.OK)
	allocs(t, s, 2, 5, 3, 7, 6)
	gives(t, s, 2, api.OK, 6, 2, 7, 3)
	holds(t, "it keeps four", s, 9, list(4, 5), list(1), nil, list(6, 2, 7, 3))
	drains(t, s, 2, 4, api.OK)
	holds(t, "it kept four", s, 13, list(4, 5), list(1), nil, nil)
	drains(t, s, 0, 1, api.OK)
	holds(t, "all are drained", s, 14, list(4, 5), nil, nil, nil)
	// Its room is its own yet, and its neighbours' are theirs.
	allocs(t, s, 2, 2)
	allocs(t, s, 1, 6)
	holds(t, "they keep again", s, 10, list(2, 4, 5, 6), nil, list(3), list(1))
}

func TestWhatIsNoCore(t *testing.T) {
	s := made(t, 2, 1)
	allocs(t, s, 0, 2)
	for _, cpu := range append([]int{2, 3, 63}, noCores...) {
		allocsNone(t, s, cpu, api.ErrRange)
		// The core is told first, whatever the object is.
		gives(t, s, cpu, api.ErrRange, 2, 1, 3, 0, -1, 9, 97)
		drains(t, s, cpu, 0, api.ErrRange)
		if l := s.Kept(cpu); len(l) != 0 {
			t.Errorf("Kept(%d) = %v", cpu, l)
		}
	}
	holds(t, "refused", s, 6, list(2), list(1), nil)
	// No core is told ahead of a pool that has none.
	allocs(t, s, 0, 1, 4, 3, 6, 5, 8, 7)
	allocsNone(t, s, 2, api.ErrRange)
	wide := made(t, 64, 12)
	for _, cpu := range noCores {
		allocsNone(t, wide, cpu, api.ErrRange)
		gives(t, wide, cpu, api.ErrRange, 1)
		drains(t, wide, cpu, 0, api.ErrRange)
	}
	holds(t, "refused", wide, 96, nil, make([][]int, 64)...)
}

// TestAllCoresKeepSome fills the lists of cores that lie side by side: none may run into the next one.
func TestAllCoresKeepSome(t *testing.T) {
	s := made(t, 24, 12)
	var ids []int
	for range 96 {
		id, why := s.Alloc(0)
		if why != api.OK {
			t.Fatalf("Alloc(0) = %d, %d", id, why)
		}
		ids = append(ids, id)
	}
	kept := make([][]int, 24)
	for i, id := range ids {
		gives(t, s, i%24, api.OK, id)
		kept[i%24] = append(kept[i%24], id)
	}
	holds(t, "all are kept", s, 0, nil, kept...)
	lasts := make([]int, 24)
	for cpu := 23; cpu >= 0; cpu-- {
		lasts[cpu] = kept[cpu][3]
		allocs(t, s, cpu, lasts[cpu])
	}
	for cpu := range 24 {
		gives(t, s, cpu, api.OK, lasts[23-cpu])
		kept[cpu][3] = lasts[23-cpu]
	}
	holds(t, "the last ones went round", s, 0, nil, kept...)
	for cpu := range 24 {
		drains(t, s, cpu, 4, api.OK)
	}
	holds(t, "drained", s, 96, nil, make([][]int, 24)...)
}

// plain is what a stash must be: the place of each object, by lists.
type plain struct {
	count int
	taken map[int]bool
	kept  [][]int
	out   map[int]bool
}

// next is the object that the pool takes: of the first page in part, else of the first empty one; 0 if none is free.
func (p *plain) next() int {
	begun, fresh := 0, 0
	for id := p.count; id >= 1; id-- {
		if p.taken[id] {
			continue
		}
		page := (id - 1) / 8 * 8
		empty := true
		for other := page + 1; other <= page+8; other++ {
			empty = empty && !p.taken[other]
		}
		if empty {
			fresh = id
		} else {
			begun = id
		}
	}
	if begun != 0 {
		return begun
	}
	return fresh
}

func (p *plain) alloc(cpu int) (int, api.Errno) {
	if len(p.kept[cpu]) == 0 {
		for range 2 {
			if id := p.next(); id != 0 {
				p.taken[id] = true
				p.kept[cpu] = append(p.kept[cpu], id)
			}
		}
	}
	last := len(p.kept[cpu]) - 1
	if last < 0 {
		return 0, api.ErrFull
	}
	id := p.kept[cpu][last]
	p.kept[cpu] = slices.Clone(p.kept[cpu][:last])
	p.out[id] = true
	return id, api.OK
}

func (p *plain) give(cpu, id int) api.Errno {
	if !p.out[id] {
		return api.ErrNone
	}
	if len(p.kept[cpu]) == 4 {
		delete(p.taken, p.kept[cpu][0])
		delete(p.taken, p.kept[cpu][1])
		p.kept[cpu] = slices.Clone(p.kept[cpu][2:])
	}
	delete(p.out, id)
	p.kept[cpu] = append(p.kept[cpu], id)
	return api.OK
}

func (p *plain) drain(cpu int) int {
	for _, id := range p.kept[cpu] {
		delete(p.taken, id)
	}
	n := len(p.kept[cpu])
	p.kept[cpu] = nil
	return n
}

// holds says that the stash is as the plain one, and that each object is at one place.
func (p *plain) holds(t *testing.T, s *stash.Stash) {
	t.Helper()
	var out []int
	for id := 1; id <= p.count; id++ {
		if p.out[id] {
			out = append(out, id)
		}
	}
	holds(t, "mixed", s, p.count-len(p.taken), out, p.kept...)
	places := make(map[int]int)
	for _, id := range s.Out() {
		places[id]++
	}
	for cpu := range p.kept {
		for _, id := range s.Kept(cpu) {
			places[id]++
		}
	}
	for id, n := range places {
		if n != 1 || id < 1 || id > p.count {
			t.Fatalf("the object %d is at %d places", id, n)
		}
	}
	if len(places)+s.Free() != p.count {
		t.Fatalf("%d are kept or handed out, %d are free, of %d", len(places), s.Free(), p.count)
	}
}

// TestMixedRuns holds long runs against the plain stash, and drains all cores now and then.
func TestMixedRuns(t *testing.T) {
	state := uint64(7)
	below := func(n int) int {
		state = state*6364136223846793005 + 1442695040888963407
		return int((state >> 33) % uint64(n))
	}
	for _, size := range [][2]int{{1, 1}, {2, 1}, {3, 2}, {5, 3}, {64, 12}, {7, 12}} {
		cpus, count := size[0], size[1]*8
		s := made(t, cpus, size[1])
		p := &plain{count, map[int]bool{}, make([][]int, cpus), map[int]bool{}}
		giving := 2
		for range 3000 {
			if below(count) == 0 {
				giving = 1 + below(4)
			}
			cpu := below(cpus)
			switch pick := below(40); {
			case pick == 0:
				drains(t, s, cpu, p.drain(cpu), api.OK)
			case pick == 1:
				for one := range cpus {
					drains(t, s, one, p.drain(one), api.OK)
				}
				if s.Free() != count-len(s.Out()) {
					t.Fatalf("all cores are drained: %d are free, %d handed out", s.Free(), len(s.Out()))
				}
			case pick < 10*giving:
				id := below(count+2) - 1
				if out := s.Out(); len(out) > 0 && below(5) > 0 {
					id = out[below(len(out))]
				}
				gives(t, s, cpu, p.give(cpu, id), id)
			default:
				want, why := p.alloc(cpu)
				if id, got := s.Alloc(cpu); id != want || got != why {
					t.Fatalf("Alloc(%d) = %d, %d, want %d, %d", cpu, id, got, want, why)
				}
			}
			p.holds(t, s)
		}
	}
}

func TestListsAreTheCallersOwn(t *testing.T) {
	s := made(t, 3, 1)
	allocs(t, s, 0, 2, 1, 4, 3, 6, 5)
	gives(t, s, 0, api.OK, 1)
	gives(t, s, 1, api.OK, 2, 3)
	check := func(what string) {
		t.Helper()
		holds(t, what, s, 2, list(4, 5, 6), list(1), list(2, 3), nil)
	}
	for cpu := range 3 {
		kept, again := s.Kept(cpu), s.Kept(cpu)
		was := slices.Clone(again)
		for i := range kept {
			kept[i] = 8
		}
		_ = append(kept, 7, 7, 7, 7)
		// What an answer hides behind its length is the caller's, too.
		for i := range kept[:cap(kept)] {
			kept[:cap(kept)][i] = 8
		}
		if !slices.Equal(again, was) {
			t.Errorf("a list was changed by another: %v", again)
		}
		check("Kept was written into")
	}
	out, again := s.Out(), s.Out()
	for i := range out {
		out[i] = 8
	}
	_ = append(out, 7, 7)
	if !slices.Equal(again, list(4, 5, 6)) {
		t.Errorf("a list was changed by another: %v", again)
	}
	check("Out was written into")
	kept := s.Kept(1)
	gives(t, s, 1, api.OK, 4, 5, 6)
	drains(t, s, 1, 3, api.OK)
	if !slices.Equal(kept, list(2, 3)) || !slices.Equal(again, list(4, 5, 6)) {
		t.Errorf("lists were changed by the stash: %v, %v", kept, again)
	}
}

func TestTwoStashesShareNothing(t *testing.T) {
	a, b := made(t, 2, 1), made(t, 2, 1)
	allocs(t, a, 0, 2)
	allocs(t, b, 1, 2, 1)
	gives(t, a, 1, api.OK, 2)
	holds(t, "the one", a, 6, nil, list(1), list(2))
	holds(t, "the other", b, 6, list(1, 2), nil, nil)
}

// none says what a stash that has no cores, or is not there, answers.
func none(t *testing.T, s *stash.Stash, want api.Errno) {
	t.Helper()
	for _, cpu := range append([]int{0, 1, 63}, noCores...) {
		allocsNone(t, s, cpu, want)
		gives(t, s, cpu, want, 0, 1, 96, 97, -1)
		drains(t, s, cpu, 0, want)
		if l := s.Kept(cpu); len(l) != 0 {
			t.Errorf("Kept(%d) = %v", cpu, l)
		}
	}
	holds(t, "none", s, 0, nil)
	for _, id := range noObjects {
		if s.Has(id) {
			t.Errorf("Has(%d) = true", id)
		}
	}
}

func TestNilStash(t *testing.T) {
	none(t, nil, api.ErrNil)
}

func TestStashThatNewDidNotMake(t *testing.T) {
	none(t, &stash.Stash{}, api.ErrRange)
}
