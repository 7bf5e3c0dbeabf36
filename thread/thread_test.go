package thread_test

import (
	"math"
	"slices"
	"testing"

	"davit/api"
	"davit/mask"
	"davit/thread"
)

// noPrios are numbers that are no priorities, noThreads such that no thread ever has, timers such as a timer may have.
var (
	noPrios   = []int{math.MinInt, -1 << 32, -8, -1, 8, 9, 1 << 32, 1<<32 + 1, math.MaxInt}
	noThreads = []int{math.MinInt, -1 << 32, -32, -1, 0, 33, 34, 64, 1 << 32, 1<<32 + 1, math.MaxInt}
	timers    = []int{1, 48, 0, -1, 49, 1 << 32, math.MinInt, math.MaxInt}
)

// noCores are numbers that are none of so many cores.
func noCores(cpus int) []int {
	return []int{math.MinInt, -1 << 32, -64, -1, cpus, cpus + 1, 64, 65, 1 << 32, 1<<32 + 1, math.MaxInt}
}

// noMasks are those that can not be of so many cores.
func noMasks(cpus int) []mask.Mask {
	l := []mask.Mask{0}
	for cpu := cpus; cpu < api.MaxCpu; cpu++ {
		l = append(l, mask.Of(cpu), mask.Of(0, cpu), mask.Upto(cpu+1))
	}
	return l
}

func made(t *testing.T, cpus int) *thread.Table {
	t.Helper()
	x, why := thread.New(cpus)
	if why != api.OK || x == nil {
		t.Fatalf("New(%d) = %v, %d", cpus, x, why)
	}
	return x
}

func spawns(t *testing.T, x *thread.Table, prio int, m mask.Mask, want int, wantWhy api.Errno) {
	t.Helper()
	if id, why := x.Spawn(prio, m); id != want || why != wantWhy {
		t.Fatalf("Spawn(%d, %b) = %d, %d, want %d, %d", prio, uint64(m), id, why, want, wantWhy)
	}
}

func wakes(t *testing.T, x *thread.Table, id, want int, wantWhy api.Errno) {
	t.Helper()
	if timer, why := x.Wake(id); timer != want || why != wantWhy {
		t.Fatalf("Wake(%d) = %d, %d, want %d, %d", id, timer, why, want, wantWhy)
	}
}

func answers(t *testing.T, what string, why, want api.Errno) {
	t.Helper()
	if why != want {
		t.Fatalf("%s = %d, want %d", what, why, want)
	}
}

// lacks says that each call answers that there are no such threads, whatever else it is told.
func lacks(t *testing.T, x *thread.Table, want api.Errno, ids ...int) {
	t.Helper()
	for _, id := range ids {
		if y, why := x.Get(id); y != (thread.Thread{}) || why != want {
			t.Fatalf("Get(%d) = %v, %d, want none, %d", id, y, why, want)
		}
		answers(t, "Exit", x.Exit(id), want)
		for _, m := range []mask.Mask{0, 1, ^mask.Mask(0)} {
			answers(t, "Aim", x.Aim(id, m), want)
		}
		for _, cpu := range append([]int{0}, noCores(1)...) {
			answers(t, "Place", x.Place(id, cpu, true), want)
		}
		for _, timer := range timers {
			answers(t, "Sleep", x.Sleep(id, timer), want)
		}
		wakes(t, x, id, 0, want)
	}
}

// holds says that there are these threads, by number, and no others.
func holds(t *testing.T, what string, x *thread.Table, want map[int]thread.Thread) {
	t.Helper()
	var ids []int
	for id := 1; id <= api.MaxThreads; id++ {
		y, why := x.Get(id)
		one, is := want[id]
		if is {
			ids = append(ids, id)
		}
		if y != one || is != (why == api.OK) || !is && why != api.ErrNone {
			t.Fatalf("%s: Get(%d) = %+v, %d, want %+v, there %v", what, id, y, why, one, is)
		}
	}
	if l := x.List(); !slices.Equal(l, ids) {
		t.Fatalf("%s: List() = %v, want %v", what, l, ids)
	}
}

// three is a table of three cores with three threads, no two of which are alike, and these threads.
func three(t *testing.T) (*thread.Table, map[int]thread.Thread) {
	t.Helper()
	x := made(t, 3)
	spawns(t, x, 3, 7, 1, api.OK)
	spawns(t, x, 0, 1, 2, api.OK)
	spawns(t, x, 7, 4, 3, api.OK)
	answers(t, "Place", x.Place(2, 1, true), api.OK)
	answers(t, "Place", x.Place(3, 2, false), api.OK)
	answers(t, "Sleep", x.Sleep(3, 9), api.OK)
	return x, map[int]thread.Thread{
		1: {Prio: 3, Mask: 7},
		2: {Prio: 0, Mask: 1, Cpu: 1, Forced: true},
		3: {Prio: 7, Mask: 4, Cpu: 2, Sleeps: true, Timer: 9},
	}
}

func TestNewTellsHowManyCoresThereMayBe(t *testing.T) {
	for _, cpus := range []int{math.MinInt, -1 << 32, -64, -1, 0, 65, 66, 128, 1 << 32, 1<<32 + 1, math.MaxInt} {
		if x, why := thread.New(cpus); x != nil || why != api.ErrArg {
			t.Errorf("New(%d) = %v, %d, want nil, %d", cpus, x, why, api.ErrArg)
		}
	}
	for _, cpus := range []int{1, 2, 63, 64} {
		x := made(t, cpus)
		holds(t, "new", x, nil)
		lacks(t, x, api.ErrNone, append([]int{1, 2, 31, 32}, noThreads...)...)
		spawns(t, x, 0, mask.Upto(cpus), 1, api.OK)
		answers(t, "Place", x.Place(1, cpus-1, false), api.OK)
		answers(t, "Place", x.Place(1, cpus, false), api.ErrRange)
		holds(t, "placed", x, map[int]thread.Thread{1: {Mask: mask.Upto(cpus), Cpu: cpus - 1}})
	}
}

func TestThreadsOfTheDocument(t *testing.T) {
	x := made(t, 1)
	spawns(t, x, 3, 1, 1, api.OK)
	spawns(t, x, 3, 1, 2, api.OK)
	answers(t, "Exit", x.Exit(1), api.OK)
	spawns(t, x, 0, 1, 1, api.OK)
	holds(t, "the document's", x, map[int]thread.Thread{1: {Prio: 0, Mask: 1}, 2: {Prio: 3, Mask: 1}})
}

func TestSpawn(t *testing.T) {
	x, want := made(t, 5), map[int]thread.Thread{}
	for id := 1; id <= 31; id++ {
		spawns(t, x, id%8, mask.Mask(id), id, api.OK)
		want[id] = thread.Thread{Prio: id % 8, Mask: mask.Mask(id)}
		holds(t, "spawned", x, want)
	}
	spawns(t, x, 7, 31, 32, api.OK)
	want[32] = thread.Thread{Prio: 7, Mask: 31}
	for range 3 {
		spawns(t, x, 0, 1, 0, api.ErrFull)
	}
	holds(t, "full", x, want)
	// The last core and the greatest number of cores are no less than others.
	all := made(t, 64)
	spawns(t, all, 0, mask.Of(63), 1, api.OK)
	spawns(t, all, 0, ^mask.Mask(0), 2, api.OK)
}

func TestSpawnThatIsRefused(t *testing.T) {
	for _, cpus := range []int{1, 2, 3, 63, 64} {
		x, want := made(t, cpus), map[int]thread.Thread{}
		refuse := func() {
			t.Helper()
			for _, prio := range noPrios {
				spawns(t, x, prio, 1, 0, api.ErrArg)
				spawns(t, x, prio, 0, 0, api.ErrArg)
			}
			for _, m := range noMasks(cpus) {
				spawns(t, x, 0, m, 0, api.ErrArg)
				spawns(t, x, 7, m, 0, api.ErrArg)
			}
			holds(t, "refused", x, want)
		}
		refuse()
		for id := 1; id <= api.MaxThreads; id++ {
			spawns(t, x, 1, 1, id, api.OK)
			want[id] = thread.Thread{Prio: 1, Mask: 1}
		}
		// What can not be is told ahead of that there is no room.
		refuse()
		spawns(t, x, 1, 1, 0, api.ErrFull)
	}
}

func TestExit(t *testing.T) {
	x, want := three(t)
	lacks(t, x, api.ErrNone, append([]int{4, 32}, noThreads...)...)
	holds(t, "refused", x, want)
	answers(t, "Exit", x.Exit(2), api.OK)
	delete(want, 2)
	holds(t, "gone", x, want)
	lacks(t, x, api.ErrNone, 2)
	holds(t, "gone still", x, want)
	// One that sleeps may go, too, and leaves nothing to the next one of its number.
	answers(t, "Exit", x.Exit(3), api.OK)
	delete(want, 3)
	holds(t, "gone asleep", x, want)
	spawns(t, x, 5, 2, 2, api.OK)
	spawns(t, x, 6, 3, 3, api.OK)
	want[2], want[3] = thread.Thread{Prio: 5, Mask: 2}, thread.Thread{Prio: 6, Mask: 3}
	holds(t, "anew", x, want)
	wakes(t, x, 3, 0, api.ErrState)
}

// TestEachNumberComesBack lets one of as many threads as there may be exit, whose number is the next one's.
func TestEachNumberComesBack(t *testing.T) {
	x, want := made(t, 2), map[int]thread.Thread{}
	for id := 1; id <= api.MaxThreads; id++ {
		spawns(t, x, 2, 2, id, api.OK)
		want[id] = thread.Thread{Prio: 2, Mask: 2}
	}
	for id := 1; id <= api.MaxThreads; id++ {
		answers(t, "Exit", x.Exit(id), api.OK)
		spawns(t, x, 4, 1, id, api.OK)
		spawns(t, x, 4, 1, 0, api.ErrFull)
		want[id] = thread.Thread{Prio: 4, Mask: 1}
		holds(t, "come back", x, want)
	}
	for _, id := range []int{32, 5, 17} {
		answers(t, "Exit", x.Exit(id), api.OK)
	}
	for _, id := range []int{5, 17, 32} {
		spawns(t, x, 0, 1, id, api.OK)
	}
	spawns(t, x, 0, 1, 0, api.ErrFull)
}

func TestAim(t *testing.T) {
	x, want := three(t)
	for id := 1; id <= 3; id++ {
		for m := mask.Mask(1); m < 8; m++ {
			answers(t, "Aim", x.Aim(id, m), api.OK)
			one := want[id]
			one.Mask = m
			want[id] = one
			holds(t, "aimed", x, want)
		}
		for _, m := range noMasks(3) {
			answers(t, "Aim", x.Aim(id, m), api.ErrArg)
		}
		holds(t, "refused", x, want)
	}
	lacks(t, x, api.ErrNone, append([]int{4, 32}, noThreads...)...)
	all := made(t, 64)
	spawns(t, all, 0, 1, 1, api.OK)
	answers(t, "Aim", all.Aim(1, ^mask.Mask(0)), api.OK)
	answers(t, "Aim", all.Aim(1, mask.Of(63)), api.OK)
	answers(t, "Aim", all.Aim(1, 0), api.ErrArg)
	holds(t, "of all cores", all, map[int]thread.Thread{1: {Mask: mask.Of(63)}})
}

func TestPlace(t *testing.T) {
	x, want := three(t)
	for id := 1; id <= 3; id++ {
		// Whether it is forced is as it is told, and hangs on no mask.
		for _, forced := range []bool{true, false} {
			for cpu := range 3 {
				answers(t, "Place", x.Place(id, cpu, forced), api.OK)
				one := want[id]
				one.Cpu, one.Forced = cpu, forced
				want[id] = one
				holds(t, "placed", x, want)
			}
		}
		for _, cpu := range noCores(3) {
			answers(t, "Place", x.Place(id, cpu, true), api.ErrRange)
			answers(t, "Place", x.Place(id, cpu, false), api.ErrRange)
		}
		holds(t, "refused", x, want)
	}
	lacks(t, x, api.ErrNone, append([]int{4, 32}, noThreads...)...)
}

func TestSleepAndWake(t *testing.T) {
	x, want := three(t)
	wakes(t, x, 1, 0, api.ErrState)
	wakes(t, x, 2, 0, api.ErrState)
	answers(t, "Sleep", x.Sleep(3, 10), api.ErrState)
	holds(t, "refused", x, want)
	awake := want[2]
	for _, timer := range timers {
		answers(t, "Sleep", x.Sleep(2, timer), api.OK)
		asleep := awake
		asleep.Sleeps, asleep.Timer = true, timer
		want[2] = asleep
		holds(t, "asleep", x, want)
		for _, other := range timers {
			answers(t, "Sleep", x.Sleep(2, other), api.ErrState)
		}
		holds(t, "asleep still", x, want)
		wakes(t, x, 2, timer, api.OK)
		want[2] = awake
		holds(t, "awake", x, want)
		wakes(t, x, 2, 0, api.ErrState)
		holds(t, "awake still", x, want)
	}
	wakes(t, x, 3, 9, api.OK)
	want[3] = thread.Thread{Prio: 7, Mask: 4, Cpu: 2}
	holds(t, "the other one", x, want)
	lacks(t, x, api.ErrNone, append([]int{4, 32}, noThreads...)...)
}

// TestTwoMaySleepByOneTimer: a table does not know what timers there are.
func TestTwoMaySleepByOneTimer(t *testing.T) {
	x := made(t, 1)
	spawns(t, x, 0, 1, 1, api.OK)
	spawns(t, x, 0, 1, 2, api.OK)
	answers(t, "Sleep", x.Sleep(1, 5), api.OK)
	answers(t, "Sleep", x.Sleep(2, 5), api.OK)
	wakes(t, x, 1, 5, api.OK)
	holds(t, "one awake", x, map[int]thread.Thread{1: {Mask: 1}, 2: {Mask: 1, Sleeps: true, Timer: 5}})
}

// TestAThreadThatIsAimedWhileItSleeps: no call but Sleep and Wake hangs on whether it sleeps.
func TestAThreadThatIsAimedWhileItSleeps(t *testing.T) {
	x := made(t, 4)
	spawns(t, x, 6, 1, 1, api.OK)
	answers(t, "Sleep", x.Sleep(1, 3), api.OK)
	answers(t, "Aim", x.Aim(1, 12), api.OK)
	answers(t, "Place", x.Place(1, 1, true), api.OK)
	holds(t, "asleep", x, map[int]thread.Thread{1: {Prio: 6, Mask: 12, Cpu: 1, Forced: true, Sleeps: true, Timer: 3}})
	wakes(t, x, 1, 3, api.OK)
	holds(t, "awake", x, map[int]thread.Thread{1: {Prio: 6, Mask: 12, Cpu: 1, Forced: true}})
}

func TestWhatGetTellsIsTheCallersOwn(t *testing.T) {
	x, want := three(t)
	one, _ := x.Get(2)
	one.Prio, one.Mask, one.Cpu, one.Forced, one.Sleeps, one.Timer = 5, 2, 2, false, true, 7
	holds(t, "written into", x, want)
	kept, _ := x.Get(2)
	answers(t, "Aim", x.Aim(2, 6), api.OK)
	if kept != want[2] {
		t.Errorf("what was told is %+v after a call", kept)
	}
}

func TestListIsTheCallersOwn(t *testing.T) {
	x, want := three(t)
	one, two := x.List(), x.List()
	for i := range one {
		one[i] = 99
	}
	_ = append(one[:1], 98, 97, 96)
	_ = append(two, 95)
	if !slices.Equal(two, []int{1, 2, 3}) {
		t.Errorf("another List is %v after one was written into", two)
	}
	holds(t, "written into", x, want)
	spawns(t, x, 0, 1, 4, api.OK)
}

func TestTablesShareNothing(t *testing.T) {
	one, want := three(t)
	two, other := three(t)
	answers(t, "Exit", two.Exit(1), api.OK)
	answers(t, "Aim", two.Aim(2, 2), api.OK)
	wakes(t, two, 3, 9, api.OK)
	delete(other, 1)
	other[2] = thread.Thread{Mask: 2, Cpu: 1, Forced: true}
	other[3] = thread.Thread{Prio: 7, Mask: 4, Cpu: 2}
	holds(t, "one", one, want)
	holds(t, "two", two, other)
}

// TestTheNumbersCallsAreItsOwn: the embedded numbers are those of the threads.
func TestTheNumbersCallsAreItsOwn(t *testing.T) {
	x, _ := three(t)
	answers(t, "Exit", x.Exit(2), api.OK)
	if !x.Has(1) || x.Has(2) || !x.Has(3) || x.Has(4) || x.Len() != 2 || x.Cap() != api.MaxThreads {
		t.Errorf("Has = %v %v %v %v, Len = %d, Cap = %d", x.Has(1), x.Has(2), x.Has(3), x.Has(4), x.Len(), x.Cap())
	}
}

func TestNilTable(t *testing.T) {
	var x *thread.Table
	for _, prio := range append([]int{0, 7}, noPrios...) {
		for _, m := range []mask.Mask{0, 1, ^mask.Mask(0)} {
			spawns(t, x, prio, m, 0, api.ErrNil)
		}
	}
	lacks(t, x, api.ErrNil, append([]int{1, 2, 32}, noThreads...)...)
	if l := x.List(); len(l) != 0 {
		t.Errorf("List() = %v", l)
	}
}

// TestTableThatNewDidNotMake: nothing panics, whatever was handed in.
func TestTableThatNewDidNotMake(t *testing.T) {
	x := &thread.Table{}
	for _, m := range []mask.Mask{0, 1, ^mask.Mask(0)} {
		spawns(t, x, 0, m, 0, api.ErrArg)
	}
	lacks(t, x, api.ErrNone, append([]int{1, 2, 32}, noThreads...)...)
	if l := x.List(); len(l) != 0 {
		t.Errorf("List() = %v", l)
	}
}

// plain is what a table must be.
type plain struct {
	cpus    int
	threads map[int]thread.Thread
}

func (p *plain) canBe(m mask.Mask) bool {
	return m != 0 && (p.cpus == 64 || m < 1<<p.cpus)
}

func (p *plain) spawn(prio int, m mask.Mask) (int, api.Errno) {
	switch {
	case prio < 0 || prio > 7 || !p.canBe(m):
		return 0, api.ErrArg
	case len(p.threads) == 32:
		return 0, api.ErrFull
	}
	id := 1
	for p.has(id) {
		id++
	}
	p.threads[id] = thread.Thread{Prio: prio, Mask: m}
	return id, api.OK
}

func (p *plain) has(id int) bool {
	_, is := p.threads[id]
	return is
}

// change does something to a thread, unless there is none, or it is refused.
func (p *plain) change(id int, refused api.Errno, do func(*thread.Thread)) api.Errno {
	if !p.has(id) {
		return api.ErrNone
	}
	if refused == api.OK {
		one := p.threads[id]
		do(&one)
		p.threads[id] = one
	}
	return refused
}

func (p *plain) exit(id int) api.Errno {
	if !p.has(id) {
		return api.ErrNone
	}
	delete(p.threads, id)
	return api.OK
}

func (p *plain) aim(id int, m mask.Mask) api.Errno {
	return p.change(id, unless(p.canBe(m), api.ErrArg), func(x *thread.Thread) { x.Mask = m })
}

func (p *plain) place(id, cpu int, forced bool) api.Errno {
	return p.change(id, unless(cpu >= 0 && cpu < p.cpus, api.ErrRange), func(x *thread.Thread) { x.Cpu, x.Forced = cpu, forced })
}

func (p *plain) sleep(id, timer int) api.Errno {
	return p.change(id, unless(!p.threads[id].Sleeps, api.ErrState), func(x *thread.Thread) { x.Sleeps, x.Timer = true, timer })
}

func (p *plain) wake(id int) (int, api.Errno) {
	timer := p.threads[id].Timer
	return timer, p.change(id, unless(p.threads[id].Sleeps, api.ErrState), func(x *thread.Thread) { x.Sleeps, x.Timer = false, 0 })
}

func unless(fine bool, why api.Errno) api.Errno {
	if fine {
		return api.OK
	}
	return why
}

// TestMixedRuns holds long runs against the plain table; so what is done to one thread changes no other one.
func TestMixedRuns(t *testing.T) {
	state := uint64(11)
	below := func(n int) int {
		state = state*6364136223846793005 + 1442695040888963407
		return int((state >> 33) % uint64(n))
	}
	for _, cpus := range []int{1, 2, 5, 63, 64} {
		x, p := made(t, cpus), &plain{cpus: cpus, threads: map[int]thread.Thread{}}
		for step := range 4000 {
			id, cpu, timer := below(36)-1, below(cpus+2)-1, below(50)
			m := mask.Of(below(cpus+1), below(cpus)).Less(below(cpus))
			var got, want, gotN, wantN = api.OK, api.OK, 0, 0
			switch below(12) {
			case 0, 1, 2:
				prio := below(10) - 1
				gotN, got = x.Spawn(prio, m)
				wantN, want = p.spawn(prio, m)
			case 3:
				got, want = x.Exit(id), p.exit(id)
			case 4, 5:
				got, want = x.Aim(id, m), p.aim(id, m)
			case 6, 7:
				forced := below(2) == 1
				got, want = x.Place(id, cpu, forced), p.place(id, cpu, forced)
			case 8, 9:
				got, want = x.Sleep(id, timer), p.sleep(id, timer)
			default:
				gotN, got = x.Wake(id)
				wantN, want = p.wake(id)
			}
			if got != want || gotN != wantN {
				t.Fatalf("%d cores, step %d: %d, %d, want %d, %d", cpus, step, gotN, got, wantN, want)
			}
			holds(t, "mixed", x, p.threads)
		}
	}
}
