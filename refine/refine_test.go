package refine_test

import (
	"math"
	"reflect"
	"testing"

	"davit/api"
	"davit/kernel"
	"davit/mask"
	"davit/model"
	"davit/refine"
)

// ret is an answer.
func ret(id int, why api.Errno) api.Rec {
	return api.Rec{Kind: api.RecRet, Id: id, Why: why}
}

// told is a kernel that is asked behind each event what it is.
type told struct {
	*testing.T
	k *kernel.Kernel
	// What it must be.
	want model.State
}

func newTold(t *testing.T, cpus int) *told {
	t.Helper()
	k, why := kernel.New(cpus)
	if why != api.OK {
		t.Fatalf("New(%d): %d", cpus, why)
	}
	x := &told{t, k, model.State{Cpus: cpus, Online: mask.Upto(cpus), Readers: make([]int, cpus)}}
	x.same()
	return x
}

// same holds what Of tells against what must be.
func (x *told) same() {
	x.Helper()
	s, why := refine.Of(x.k)
	if why != api.OK || !model.Same(s, x.want) {
		x.Fatalf("Of = %+v, %d, want %+v", s, why, x.want)
	}
}

// do does an event that is answered by this record, or by none, and changes what must be.
func (x *told) do(e api.Ev, r api.Rec, change func(s *model.State)) {
	x.Helper()
	l := x.k.Do(e)
	if len(l) == 0 && r.Kind != 0 || len(l) > 0 && l[0] != r {
		x.Fatalf("Do(%+v) = %+v, want %+v", e, l, r)
	}
	change(&x.want)
	x.same()
}

// ok does an event that is answered OK.
func (x *told) ok(e api.Ev, id int, change func(s *model.State)) {
	x.Helper()
	x.do(e, ret(id, api.OK), change)
}

// step lets a core do a thing.
func (x *told) step(r api.Rec, change func(s *model.State)) {
	x.Helper()
	x.do(api.Ev{Kind: api.EvStep, Cpu: r.Cpu}, r, change)
}

func nothing(*model.State) {}

// P30.1: of a nil kernel.
func TestOfNil(t *testing.T) {
	if s, why := refine.Of(nil); why != api.ErrNil || !reflect.DeepEqual(s, model.State{}) {
		t.Errorf("Of(nil) = %+v, %d", s, why)
	}
	// One that New did not make has no cores.
	if s, why := refine.Of(&kernel.Kernel{}); why != api.OK || !model.Same(s, model.State{}) {
		t.Errorf("Of(zero) = %+v, %d", s, why)
	}
}

// P30.1: of a new kernel it is a new model.
func TestOfNew(t *testing.T) {
	for cpus := 1; cpus <= 64; cpus++ {
		x := newTold(t, cpus)
		s, _ := model.New(cpus)
		if !model.Same(s, x.want) {
			t.Errorf("New(%d) = %+v", cpus, s)
		}
	}
}

// P30.1: threads.
func TestOfThreads(t *testing.T) {
	x := newTold(t, 3)
	for id := 1; id <= 4; id++ {
		x.ok(api.Ev{Kind: api.EvSpawn, Id: 8 - id, Mask: uint64(id)}, id, func(s *model.State) {
			s.Threads = append(s.Threads, model.Thread{Id: id, Prio: 8 - id, Mask: mask.Mask(id)})
		})
	}
	x.ok(api.Ev{Kind: api.EvExit, Id: 2}, 0, func(s *model.State) { s.Threads = append(s.Threads[:1], s.Threads[2:]...) })
	x.ok(api.Ev{Kind: api.EvAffin, Id: 3, Mask: 4}, 0, func(s *model.State) { s.Threads[1].Mask = 4 })
	x.ok(api.Ev{Kind: api.EvYield, Id: 3}, 0, nothing)
	x.ok(api.Ev{Kind: api.EvWhere, Id: 3}, 2, nothing)
	x.ok(api.Ev{Kind: api.EvTick, N: 6}, 0, func(s *model.State) { s.Now = 6 })
	x.ok(api.Ev{Kind: api.EvSleep, Id: 4, N: 5}, 1, func(s *model.State) {
		s.Threads[2].Timer, s.Timers = 1, []model.Timer{{Id: 1, Due: 11, Who: 4}}
	})
	x.ok(api.Ev{Kind: api.EvSleep, Id: 1, N: 3}, 2, func(s *model.State) {
		s.Threads[0].Timer, s.Timers = 2, append(s.Timers, model.Timer{Id: 2, Due: 9, Who: 1})
	})
	x.do(api.Ev{Kind: api.EvSleep, Id: 1, N: 3}, ret(0, api.ErrState), nothing)
	x.ok(api.Ev{Kind: api.EvWake, Id: 4}, 0, func(s *model.State) { s.Threads[2].Timer, s.Timers = 0, s.Timers[1:] })
	x.ok(api.Ev{Kind: api.EvTick, N: 3}, 0, func(s *model.State) { s.Now = 9 })
	x.step(api.Rec{Kind: api.RecRun, Cpu: 2, Id: 3}, nothing)
	// Thread 1 is for core 0 alone: there its timer is, too.
	x.step(api.Rec{Kind: api.RecFire, Cpu: 0, Id: 2, N: 1}, func(s *model.State) { s.Threads[0].Timer, s.Timers = 0, nil })
	x.ok(api.Ev{Kind: api.EvSleep, Id: 3, N: 0}, 1, func(s *model.State) {
		s.Threads[1].Timer, s.Timers = 1, []model.Timer{{Id: 1, Due: 9, Who: 3}}
	})
	x.ok(api.Ev{Kind: api.EvExit, Id: 3}, 0, func(s *model.State) {
		s.Threads, s.Timers = append(s.Threads[:1], s.Threads[2]), nil
	})
	x.ok(api.Ev{Kind: api.EvBalance}, 0, nothing)
}

// P30.1: timers of all cores, by rising numbers, and not as they are due.
func TestOfTimers(t *testing.T) {
	x := newTold(t, 3)
	for id := 1; id <= 6; id++ {
		x.ok(api.Ev{Kind: api.EvArm, Cpu: (6 - id) % 3, N: int64(10 - id)}, id, func(s *model.State) { s.Timers = append(s.Timers, model.Timer{Id: id, Due: int64(10 - id)}) })
	}
	x.ok(api.Ev{Kind: api.EvCancel, Id: 2}, 0, func(s *model.State) { s.Timers = append(s.Timers[:1], s.Timers[2:]...) })
	x.ok(api.Ev{Kind: api.EvTick, N: 5}, 0, func(s *model.State) { s.Now = 5 })
	x.step(api.Rec{Kind: api.RecFire, Cpu: 1, Id: 5}, func(s *model.State) { s.Timers = append(s.Timers[:3], s.Timers[4]) })
	x.step(api.Rec{Kind: api.RecFire, Cpu: 0, Id: 6}, func(s *model.State) { s.Timers = s.Timers[:3] })
	x.do(api.Ev{Kind: api.EvCancel, Id: 2}, ret(0, api.ErrNone), nothing)
	x.do(api.Ev{Kind: api.EvTick, N: -1}, ret(0, api.ErrArg), nothing)
}

// P30.1: interrupts that are wanted.
func TestOfIrqs(t *testing.T) {
	x := newTold(t, 2)
	x.ok(api.Ev{Kind: api.EvRequest, Id: 15, Mask: 2}, 0, func(s *model.State) { s.Irqs = []model.Irq{{Id: 15, Mask: 2}} })
	x.ok(api.Ev{Kind: api.EvRequest, Id: 0, Mask: 3}, 0, func(s *model.State) { s.Irqs = []model.Irq{{Id: 0, Mask: 3}, {Id: 15, Mask: 2}} })
	x.ok(api.Ev{Kind: api.EvMask, Id: 15}, 0, func(s *model.State) { s.Irqs[1].Masked = true })
	x.ok(api.Ev{Kind: api.EvRaise, Id: 15}, 0, func(s *model.State) { s.Irqs[1].Pending = true })
	x.ok(api.Ev{Kind: api.EvRoute, Id: 0, Mask: 1}, 0, func(s *model.State) { s.Irqs[0].Mask = 1 })
	x.ok(api.Ev{Kind: api.EvUnmask, Id: 15}, 0, func(s *model.State) { s.Irqs[1].Masked = false })
	x.step(api.Rec{Kind: api.RecHandle, Cpu: 1, Id: 15}, func(s *model.State) { s.Irqs[1].Pending = false })
	x.ok(api.Ev{Kind: api.EvFree, Id: 0}, 0, func(s *model.State) { s.Irqs = s.Irqs[1:] })
	x.do(api.Ev{Kind: api.EvMask, Id: 0}, ret(0, api.ErrNone), nothing)
}

// P30.1: works of all lists, calls of all cores, objects.
func TestOfStores(t *testing.T) {
	x := newTold(t, 3)
	for id, cpu := range []int{2, -1, 1, -1, 0} {
		x.ok(api.Ev{Kind: api.EvQueue, Cpu: cpu}, id+1, func(s *model.State) { s.Works = append(s.Works, id+1) })
	}
	for id, cpu := range []int{2, 1, 2, 0} {
		x.ok(api.Ev{Kind: api.EvCall, Cpu: cpu}, id+1, func(s *model.State) { s.Calls = append(s.Calls, id+1) })
	}
	x.ok(api.Ev{Kind: api.EvFlush, Id: 2}, 1, nothing)
	x.step(api.Rec{Kind: api.RecCall, Cpu: 1, Id: 2}, func(s *model.State) { s.Calls = []int{1, 3, 4} })
	x.step(api.Rec{Kind: api.RecWork, Cpu: 1, Id: 3}, func(s *model.State) { s.Works = []int{1, 2, 4, 5} })
	x.step(api.Rec{Kind: api.RecWork, Cpu: 1, Id: 2}, func(s *model.State) { s.Works = []int{1, 4, 5} })
	x.ok(api.Ev{Kind: api.EvFlush, Id: 2}, 0, nothing)
	// What a core keeps is not handed out.
	x.ok(api.Ev{Kind: api.EvAlloc, Cpu: 1}, 2, func(s *model.State) { s.Objs = []int{2} })
	x.ok(api.Ev{Kind: api.EvAlloc, Cpu: 2}, 4, func(s *model.State) { s.Objs = []int{2, 4} })
	x.ok(api.Ev{Kind: api.EvAlloc, Cpu: 1}, 1, func(s *model.State) { s.Objs = []int{1, 2, 4} })
	x.ok(api.Ev{Kind: api.EvGive, Cpu: 0, Id: 2}, 0, func(s *model.State) { s.Objs = []int{1, 4} })
	x.do(api.Ev{Kind: api.EvGive, Cpu: 0, Id: 2}, ret(0, api.ErrNone), nothing)
	x.ok(api.Ev{Kind: api.EvLimit, N: 5}, 0, nothing)
	x.ok(api.Ev{Kind: api.EvSpeed, Id: 5, N: 9}, 0, nothing)
	x.do(api.Ev{Kind: 31}, ret(0, api.ErrArg), nothing)
	x.do(api.Ev{Kind: api.EvStep, Cpu: 3}, ret(0, api.ErrRange), nothing)
}

// P30.1: requests and readers. A core that goes is online till the request returns.
func TestOfRequests(t *testing.T) {
	x := newTold(t, 3)
	for _, cpu := range []int{2, 0, 2} {
		x.ok(api.Ev{Kind: api.EvHold, Cpu: cpu}, 0, func(s *model.State) { s.Readers[cpu]++ })
	}
	x.ok(api.Ev{Kind: api.EvOffline, Cpu: 2}, 0, func(s *model.State) { s.Busy, s.Cpu = true, 2 })
	x.do(api.Ev{Kind: api.EvHold, Cpu: 1}, ret(0, api.ErrBusy), nothing)
	x.do(api.Ev{Kind: api.EvStep}, api.Rec{}, nothing)
	for _, cpu := range []int{2, 0, 2} {
		x.ok(api.Ev{Kind: api.EvDrop, Cpu: cpu}, 0, func(s *model.State) { s.Readers[cpu]-- })
	}
	x.ok(api.Ev{Kind: api.EvQueue, Cpu: 2}, 1, func(s *model.State) { s.Works = []int{1} })
	x.ok(api.Ev{Kind: api.EvCall, Cpu: 2}, 1, func(s *model.State) { s.Calls = []int{1} })
	x.ok(api.Ev{Kind: api.EvArm, Cpu: 2, N: 4}, 1, func(s *model.State) { s.Timers = []model.Timer{{Id: 1, Due: 4}} })
	// Whatever a going does, it changes nothing of what is there: core 0 takes its acts, 1 and 2 stand still when they must.
	for at := 0; x.k.Desk().Busy(); at++ {
		for _, cpu := range x.k.Stop().Left().List() {
			x.do(api.Ev{Kind: api.EvStep, Cpu: cpu}, api.Rec{}, nothing)
		}
		l := x.k.Do(api.Ev{Kind: api.EvStep})
		if len(l) > 0 {
			x.want.Busy, x.want.Cpu, x.want.Online = false, 0, 3
		}
		x.same()
		if at > 50 {
			t.Fatal("the request does not return")
		}
	}
	x.ok(api.Ev{Kind: api.EvFail, N: 2}, 0, nothing)
	x.ok(api.Ev{Kind: api.EvOnline, Cpu: 2}, 0, func(s *model.State) { s.Busy, s.Up, s.Cpu = true, true, 2 })
	for range 4 {
		x.do(api.Ev{Kind: api.EvStep}, api.Rec{}, nothing)
	}
	x.do(api.Ev{Kind: api.EvStep}, api.Rec{Kind: api.RecHot, Cpu: 2, Why: api.ErrFail}, func(s *model.State) { s.Busy, s.Up, s.Cpu = false, false, 0 })
	x.ok(api.Ev{Kind: api.EvOnline, Cpu: 2}, 0, func(s *model.State) { s.Busy, s.Up, s.Cpu = true, true, 2 })
	for range 3 {
		x.do(api.Ev{Kind: api.EvStep}, api.Rec{}, nothing)
	}
	x.do(api.Ev{Kind: api.EvStep}, api.Rec{Kind: api.RecHot, Cpu: 2}, func(s *model.State) { s.Busy, s.Up, s.Cpu, s.Online = false, false, 0, 7 })
}

// What Of tells is in memory of the caller's own.
func TestOwnMemory(t *testing.T) {
	k, _ := kernel.New(2)
	for _, e := range []api.Ev{{Kind: api.EvSpawn, Mask: 1}, {Kind: api.EvArm}, {Kind: api.EvRequest, Mask: 1}, {Kind: api.EvQueue}, {Kind: api.EvCall}, {Kind: api.EvAlloc}, {Kind: api.EvHold}} {
		k.Do(e)
	}
	a, _ := refine.Of(k)
	b, _ := refine.Of(k)
	a.Threads[0].Id, a.Timers[0].Id, a.Irqs[0].Id, a.Works[0], a.Calls[0], a.Objs[0], a.Readers[0] = 9, 9, 9, 9, 9, 9, 9
	c, _ := refine.Of(k)
	if !model.Same(b, c) || model.Same(a, c) {
		t.Errorf("Of = %+v, %+v, %+v", a, b, c)
	}
}

// P30.2: no kernel of so many cores; no events; example 1.
func TestCheckEdges(t *testing.T) {
	l := []api.Ev{{Kind: api.EvSpawn, Mask: 1}, {Kind: api.EvStep}}
	for _, cpus := range []int{math.MinInt, -1 << 32, -64, -1, 0, 65, 66, 1 << 32, 1<<32 + 1, math.MaxInt} {
		for _, some := range [][]api.Ev{nil, l} {
			if n, why := refine.Check(cpus, some...); n != 0 || why != api.ErrArg {
				t.Errorf("Check(%d) = %d, %d", cpus, n, why)
			}
		}
	}
	for cpus := 1; cpus <= 64; cpus++ {
		for many := range 3 {
			if n, why := refine.Check(cpus, l[:many]...); n != many || why != api.OK {
				t.Errorf("Check(%d) = %d, %d, want %d", cpus, n, why, many)
			}
		}
	}
	if l[0] != (api.Ev{Kind: api.EvSpawn, Mask: 1}) || l[1] != (api.Ev{Kind: api.EvStep}) {
		t.Error("Check has changed its events", l)
	}
}
