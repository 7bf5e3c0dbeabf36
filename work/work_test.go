package work_test

import (
	"math"
	"slices"
	"testing"

	"davit/api"
	"davit/work"
)

const free = work.Free

// noWorks are numbers that no work ever has.
var noWorks = []int{math.MinInt, -1 << 32, -32, -1, 0, 33, 34, 64, 1 << 32, 1<<32 + 1, math.MaxInt}

// noLists are numbers that are neither one of so many cores nor Free.
func noLists(cpus int) []int {
	return []int{math.MinInt, -1 << 32, -64, -3, -2, cpus, cpus + 1, 64, 65, 1 << 32, 1<<32 - 1, 1<<32 + 1, math.MaxInt}
}

// noCores are numbers that are none of so many cores.
func noCores(cpus int) []int {
	return append(noLists(cpus), free)
}

func made(t *testing.T, cpus int) *work.Lists {
	t.Helper()
	x, why := work.New(cpus)
	if why != api.OK || x == nil {
		t.Fatalf("New(%d) = %v, %d", cpus, x, why)
	}
	return x
}

func gives(t *testing.T, what string, cpu, id int, why api.Errno, want int, wantWhy api.Errno) {
	t.Helper()
	if id != want || why != wantWhy {
		t.Fatalf("%s(%d) = %d, %d, want %d, %d", what, cpu, id, why, want, wantWhy)
	}
}

func queues(t *testing.T, x *work.Lists, cpu, want int, wantWhy api.Errno) {
	t.Helper()
	id, why := x.Queue(cpu)
	gives(t, "Queue", cpu, id, why, want, wantWhy)
}

func takes(t *testing.T, x *work.Lists, cpu, want int, wantWhy api.Errno) {
	t.Helper()
	id, why := x.Take(cpu)
	gives(t, "Take", cpu, id, why, want, wantWhy)
}

func unbinds(t *testing.T, x *work.Lists, cpu, want int, wantWhy api.Errno) {
	t.Helper()
	id, why := x.Unbind(cpu)
	gives(t, "Unbind", cpu, id, why, want, wantWhy)
}

func drops(t *testing.T, x *work.Lists, id int, want api.Errno) {
	t.Helper()
	if why := x.Drop(id); why != want {
		t.Fatalf("Drop(%d) = %d, want %d", id, why, want)
	}
}

// plain is what lists must be: the works of each list, in order.
type plain struct {
	cpus  int
	lists map[int][]int
}

func (p *plain) isCore(cpu int) bool { return cpu >= 0 && cpu < p.cpus }

func (p *plain) where(id int) (int, bool) {
	for cpu, list := range p.lists {
		if slices.Contains(list, id) {
			return cpu, true
		}
	}
	return 0, false
}

func (p *plain) queue(cpu int) (int, api.Errno) {
	if cpu != free && !p.isCore(cpu) {
		return 0, api.ErrRange
	}
	for id := 1; id <= 32; id++ {
		if _, in := p.where(id); !in {
			p.lists[cpu] = append(p.lists[cpu], id)
			return id, api.OK
		}
	}
	return 0, api.ErrFull
}

func (p *plain) pop(cpu int) int {
	id := p.lists[cpu][0]
	p.lists[cpu] = p.lists[cpu][1:]
	return id
}

func (p *plain) take(cpu int) (int, api.Errno) {
	switch {
	case !p.isCore(cpu):
		return 0, api.ErrRange
	case len(p.lists[cpu]) > 0:
		return p.pop(cpu), api.OK
	case len(p.lists[free]) > 0:
		return p.pop(free), api.OK
	}
	return 0, api.ErrEmpty
}

func (p *plain) unbind(cpu int) (int, api.Errno) {
	if !p.isCore(cpu) {
		return 0, api.ErrRange
	}
	if len(p.lists[cpu]) == 0 {
		return 0, api.ErrEmpty
	}
	id := p.pop(cpu)
	p.lists[free] = append(p.lists[free], id)
	return id, api.OK
}

func (p *plain) drop(id int) api.Errno {
	cpu, in := p.where(id)
	if !in {
		return api.ErrNone
	}
	var left []int
	for _, other := range p.lists[cpu] {
		if other != id {
			left = append(left, other)
		}
	}
	p.lists[cpu] = left
	return api.OK
}

// holds says by each call that only looks that lists are as they must be.
func holds(t *testing.T, what string, x *work.Lists, p *plain) {
	t.Helper()
	for cpu := free; cpu < p.cpus; cpu++ {
		if l, want := x.List(cpu), p.lists[cpu]; !slices.Equal(l, want) || x.Load(cpu) != len(want) {
			t.Fatalf("%s: of %d List = %v, Load = %d, want %v", what, cpu, l, x.Load(cpu), want)
		}
	}
	for id := 0; id <= api.MaxWorks+1; id++ {
		want, there := p.where(id)
		if cpu, in := x.Where(id); cpu != want || in != there || x.Has(id) != there {
			t.Fatalf("%s: of %d Where = %d, %v, Has = %v, want %d, %v", what, id, cpu, in, x.Has(id), want, there)
		}
	}
}

// refusesCores says what each call answers of cores that there are not.
func refusesCores(t *testing.T, x *work.Lists, want api.Errno, cpus ...int) {
	t.Helper()
	for _, cpu := range cpus {
		takes(t, x, cpu, 0, want)
		unbinds(t, x, cpu, 0, want)
	}
}

// refusesLists says what each call answers of lists that there are not.
func refusesLists(t *testing.T, x *work.Lists, want api.Errno, cpus ...int) {
	t.Helper()
	refusesCores(t, x, want, cpus...)
	for _, cpu := range cpus {
		queues(t, x, cpu, 0, want)
		if x.Load(cpu) != 0 || len(x.List(cpu)) != 0 {
			t.Fatalf("of %d Load = %d, List = %v", cpu, x.Load(cpu), x.List(cpu))
		}
	}
}

// lacks says that no such works are queued.
func lacks(t *testing.T, x *work.Lists, want api.Errno, ids ...int) {
	t.Helper()
	for _, id := range ids {
		drops(t, x, id, want)
		if cpu, in := x.Where(id); cpu != 0 || in || x.Has(id) {
			t.Fatalf("of %d Where = %d, %v, Has = %v", id, cpu, in, x.Has(id))
		}
	}
}

// six is lists of three cores with six works, and what they must be. Core 0 has none.
func six(t *testing.T) (*work.Lists, *plain) {
	t.Helper()
	x := made(t, 3)
	for i, cpu := range []int{1, free, 1, 2, free, 1} {
		queues(t, x, cpu, i+1, api.OK)
	}
	return x, &plain{3, map[int][]int{1: {1, 3, 6}, free: {2, 5}, 2: {4}}}
}

func TestNewTellsHowManyCoresThereMayBe(t *testing.T) {
	for _, cpus := range []int{math.MinInt, -1 << 32, -64, -1, 0, 65, 66, 128, 1 << 32, 1<<32 + 1, math.MaxInt} {
		if x, why := work.New(cpus); x != nil || why != api.ErrArg {
			t.Errorf("New(%d) = %v, %d, want nil, %d", cpus, x, why, api.ErrArg)
		}
	}
	for _, cpus := range []int{1, 2, 63, 64} {
		x, p := made(t, cpus), &plain{cpus, map[int][]int{}}
		holds(t, "new", x, p)
		refusesLists(t, x, api.ErrRange, noLists(cpus)...)
		refusesCores(t, x, api.ErrRange, noCores(cpus)...)
		lacks(t, x, api.ErrNone, append([]int{1, 2, 31, 32}, noWorks...)...)
		for cpu := range cpus {
			takes(t, x, cpu, 0, api.ErrEmpty)
			unbinds(t, x, cpu, 0, api.ErrEmpty)
		}
		queues(t, x, cpus-1, 1, api.OK)
		queues(t, x, free, 2, api.OK)
		p.lists[cpus-1], p.lists[free] = []int{1}, []int{2}
		holds(t, "queued", x, p)
	}
}

func TestFreeIsNoCore(t *testing.T) {
	if work.Free != -1 {
		t.Errorf("Free = %d", work.Free)
	}
}

func TestWorksOfTheDocument(t *testing.T) {
	x := made(t, 2)
	queues(t, x, 0, 1, api.OK)
	queues(t, x, free, 2, api.OK)
	takes(t, x, 1, 2, api.OK)
	unbinds(t, x, 0, 1, api.OK)
	holds(t, "the document's", x, &plain{2, map[int][]int{free: {1}}})
}

func TestQueue(t *testing.T) {
	x, p := made(t, 3), &plain{3, map[int][]int{}}
	for id := 1; id <= api.MaxWorks; id++ {
		cpu := id%4 - 1
		queues(t, x, cpu, id, api.OK)
		p.lists[cpu] = append(p.lists[cpu], id)
		holds(t, "queued", x, p)
	}
	for cpu := free; cpu < 3; cpu++ {
		queues(t, x, cpu, 0, api.ErrFull)
	}
	holds(t, "full", x, p)
	// That there is no such list is told ahead of that there is no room.
	refusesLists(t, x, api.ErrRange, noLists(3)...)
	holds(t, "refused", x, p)
}

// TestOneListHasRoomForAll queues as many works as there may be in one list, for each one.
func TestOneListHasRoomForAll(t *testing.T) {
	for cpu := free; cpu < 3; cpu++ {
		x, p := made(t, 3), &plain{3, map[int][]int{}}
		for id := 1; id <= api.MaxWorks; id++ {
			queues(t, x, cpu, id, api.OK)
			p.lists[cpu] = append(p.lists[cpu], id)
		}
		for other := free; other < 3; other++ {
			queues(t, x, other, 0, api.ErrFull)
		}
		holds(t, "all in one", x, p)
		for id := 1; id <= api.MaxWorks; id++ {
			takes(t, x, max(cpu, 0), id, api.OK)
		}
		holds(t, "all taken", x, &plain{cpus: 3})
	}
}

// TestEachNumberComesBack takes one of as many works as there may be out, whose number is the next one's.
func TestEachNumberComesBack(t *testing.T) {
	x := made(t, 2)
	for id := 1; id <= api.MaxWorks; id++ {
		queues(t, x, 0, id, api.OK)
	}
	for id := 1; id <= api.MaxWorks; id++ {
		drops(t, x, id, api.OK)
		queues(t, x, 1, id, api.OK)
		queues(t, x, 1, 0, api.ErrFull)
	}
	for _, id := range []int{32, 5, 17} {
		drops(t, x, id, api.OK)
	}
	takes(t, x, 1, 1, api.OK)
	for _, id := range []int{1, 5, 17, 32} {
		queues(t, x, free, id, api.OK)
	}
	queues(t, x, free, 0, api.ErrFull)
	// What was unbound is queued still: its number is not free.
	unbinds(t, x, 1, 2, api.OK)
	queues(t, x, free, 0, api.ErrFull)
	takes(t, x, 0, 1, api.OK)
	queues(t, x, 0, 1, api.OK)
}

func TestTake(t *testing.T) {
	x, p := six(t)
	refusesLists(t, x, api.ErrRange, noLists(3)...)
	refusesCores(t, x, api.ErrRange, noCores(3)...)
	holds(t, "refused", x, p)
	// Those of the core's own list go ahead, even of ones that came earlier.
	for _, id := range []int{1, 3, 6, 2} {
		takes(t, x, 1, id, api.OK)
		if p.drop(id) != api.OK {
			t.Fatalf("%d is not queued", id)
		}
		holds(t, "taken", x, p)
		lacks(t, x, api.ErrNone, id)
	}
	takes(t, x, 0, 5, api.OK)
	// What is another core's is left to it.
	for _, cpu := range []int{0, 1} {
		takes(t, x, cpu, 0, api.ErrEmpty)
	}
	holds(t, "refused", x, &plain{3, map[int][]int{2: {4}}})
	takes(t, x, 2, 4, api.OK)
	takes(t, x, 2, 0, api.ErrEmpty)
	holds(t, "all taken", x, &plain{cpus: 3})
}

func TestUnbind(t *testing.T) {
	x, p := six(t)
	unbinds(t, x, 0, 0, api.ErrEmpty)
	refusesCores(t, x, api.ErrRange, noCores(3)...)
	holds(t, "refused", x, p)
	// It goes behind those that are for any core already, though they have greater numbers.
	for _, id := range []int{1, 3} {
		unbinds(t, x, 1, id, api.OK)
		p.drop(id)
		p.lists[free] = append(p.lists[free], id)
		holds(t, "unbound", x, p)
	}
	unbinds(t, x, 2, 4, api.OK)
	unbinds(t, x, 2, 0, api.ErrEmpty)
	takes(t, x, 1, 6, api.OK)
	unbinds(t, x, 1, 0, api.ErrEmpty)
	holds(t, "all unbound", x, &plain{3, map[int][]int{free: {2, 5, 1, 3, 4}}})
	for i, id := range []int{2, 5, 1, 3, 4} {
		takes(t, x, i%3, id, api.OK)
	}
	takes(t, x, 0, 0, api.ErrEmpty)
}

// TestAllAreUnbound unbinds as many works as there may be, of many cores.
func TestAllAreUnbound(t *testing.T) {
	x, p := made(t, 64), &plain{64, map[int][]int{}}
	for id := 1; id <= api.MaxWorks; id++ {
		queues(t, x, id*2-1, id, api.OK)
	}
	for id := api.MaxWorks; id >= 1; id-- {
		unbinds(t, x, id*2-1, id, api.OK)
		p.lists[free] = append(p.lists[free], id)
	}
	holds(t, "all unbound", x, p)
}

func TestDrop(t *testing.T) {
	x, p := six(t)
	lacks(t, x, api.ErrNone, append([]int{7, 32}, noWorks...)...)
	holds(t, "refused", x, p)
	// One in the middle, a last one, an only one, a first one, one that is for any core.
	for _, id := range []int{3, 6, 4, 1, 2} {
		drops(t, x, id, api.OK)
		p.drop(id)
		holds(t, "dropped", x, p)
		lacks(t, x, api.ErrNone, id)
		holds(t, "refused", x, p)
	}
	takes(t, x, 1, 5, api.OK)
	takes(t, x, 1, 0, api.ErrEmpty)
}

// TestDropOfOneThatWasUnbound: it is dropped where it is now.
func TestDropOfOneThatWasUnbound(t *testing.T) {
	x, _ := six(t)
	unbinds(t, x, 1, 1, api.OK)
	drops(t, x, 1, api.OK)
	holds(t, "dropped", x, &plain{3, map[int][]int{1: {3, 6}, free: {2, 5}, 2: {4}}})
	drops(t, x, 1, api.ErrNone)
	queues(t, x, 0, 1, api.OK)
	holds(t, "queued", x, &plain{3, map[int][]int{0: {1}, 1: {3, 6}, free: {2, 5}, 2: {4}}})
}

// TestEachWorkIsTakenOnce queues works in rounds while cores take and unbind them, and holds against each other in which order they come to a list and are taken out of it.
func TestEachWorkIsTakenOnce(t *testing.T) {
	for _, cpus := range []int{1, 2, 3, 64} {
		x, came, queued, taken := made(t, cpus), map[int][]int{}, 0, 0
		take := func(cpu int) bool {
			from := cpu
			if len(came[cpu]) == 0 {
				from = free
			}
			id, why := x.Take(cpu)
			if len(came[from]) == 0 {
				if id != 0 || why != api.ErrEmpty {
					t.Fatalf("Take(%d) = %d, %d of none", cpu, id, why)
				}
				return false
			}
			if why != api.OK || id != came[from][0] {
				t.Fatalf("Take(%d) = %d, %d of %v", cpu, id, why, came[from])
			}
			came[from] = came[from][1:]
			taken++
			return true
		}
		for round := range 300 {
			for i := range round % 4 {
				cpu := (round+i)%(cpus+1) - 1
				if id, why := x.Queue(cpu); why == api.OK {
					came[cpu] = append(came[cpu], id)
					queued++
				}
			}
			from := round * 7 % cpus
			if id, why := x.Unbind(from); why == api.OK {
				came[from], came[free] = came[from][1:], append(came[free], id)
			}
			take(round * 5 % cpus)
		}
		for cpu := range cpus {
			for take(cpu) {
			}
		}
		if queued != taken || queued < 100 {
			t.Errorf("%d cores: %d were queued, %d taken", cpus, queued, taken)
		}
	}
}

func TestListIsTheCallersOwn(t *testing.T) {
	for cpu, want := range map[int][]int{1: {1, 3, 6}, free: {2, 5}} {
		x, p := six(t)
		list, other := x.List(cpu), x.List(cpu)
		for i := range list {
			list[i] = 32
		}
		_, _ = append(list[:1], 31, 30, 29), append(other, 28)
		if !slices.Equal(other, want) {
			t.Errorf("another list is %v after one was written into", other)
		}
		holds(t, "written into", x, p)
		drops(t, x, want[0], api.OK)
		if !slices.Equal(other, want) {
			t.Errorf("a list is %v after a call", other)
		}
	}
}

func TestListsShareNothing(t *testing.T) {
	x, p := six(t)
	y, _ := six(t)
	takes(t, y, 1, 1, api.OK)
	unbinds(t, y, 1, 3, api.OK)
	drops(t, y, 4, api.OK)
	queues(t, y, 0, 1, api.OK)
	holds(t, "one", x, p)
	holds(t, "the other", y, &plain{3, map[int][]int{0: {1}, 1: {6}, free: {2, 5, 3}}})
}

func TestNilLists(t *testing.T) {
	var x *work.Lists
	refusesLists(t, x, api.ErrNil, append([]int{0, 1, free}, noLists(1)...)...)
	lacks(t, x, api.ErrNil, append([]int{1, 2, 32}, noWorks...)...)
}

// TestListsThatNewDidNotMake: nothing panics; they are those of no cores.
func TestListsThatNewDidNotMake(t *testing.T) {
	x := &work.Lists{}
	refusesLists(t, x, api.ErrRange, append([]int{0, 1}, noLists(1)...)...)
	refusesCores(t, x, api.ErrRange, free)
	lacks(t, x, api.ErrNone, append([]int{1, 2, 32}, noWorks...)...)
	if id, why := x.Queue(free); id != 0 || why == api.OK {
		t.Errorf("Queue(Free) = %d, %d", id, why)
	}
	if x.Load(free) != 0 || len(x.List(free)) != 0 {
		t.Errorf("of Free Load = %d, List = %v", x.Load(free), x.List(free))
	}
}

// TestMixedRuns holds long runs against the plain lists.
func TestMixedRuns(t *testing.T) {
	state := uint64(17)
	below := func(n int) int {
		state = state*6364136223846793005 + 1442695040888963407
		return int((state >> 33) % uint64(n))
	}
	for _, cpus := range []int{1, 2, 5, 63, 64} {
		x, p := made(t, cpus), &plain{cpus, map[int][]int{}}
		for step := range 3000 {
			// So that it is full at times, and empty at times.
			more := step / 300 % 2
			id, cpu := below(36)-1, below(cpus+3)-2
			var got, want, gotId, wantId = api.OK, api.OK, 0, 0
			switch below(8 + 4*more) {
			case 0, 1, 8, 9, 10, 11:
				gotId, got = x.Queue(cpu)
				wantId, want = p.queue(cpu)
			case 2, 3, 4:
				gotId, got = x.Take(cpu)
				wantId, want = p.take(cpu)
			case 5, 6:
				gotId, got = x.Unbind(cpu)
				wantId, want = p.unbind(cpu)
			default:
				got, want = x.Drop(id), p.drop(id)
			}
			if got != want || gotId != wantId {
				t.Fatalf("%d cores, step %d: %d, %d, want %d, %d", cpus, step, gotId, got, wantId, want)
			}
			holds(t, "mixed", x, p)
		}
	}
}
