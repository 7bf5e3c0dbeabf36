package audit_test

import (
	"reflect"
	"testing"

	"davit/api"
	"davit/audit"
	"davit/kernel"
	"davit/mask"
)

// seen is a kernel whose picture is held behind each event against what it must be.
type seen struct {
	*testing.T
	k    *kernel.Kernel
	want audit.Picture
}

func newSeen(t *testing.T, cpus int) *seen {
	t.Helper()
	all := mask.Upto(cpus)
	x := &seen{t, made(t, cpus), audit.Picture{Cpus: cpus, Online: all, Active: all, Power: all}}
	x.same()
	return x
}

// same says that the picture is what it must be, and that all rules hold of it.
func (x *seen) same() {
	x.Helper()
	p := of(x.T, x.k)
	alike(x.T, p, x.want)
	judged(x.T, p)
}

// did does an event that brings these records, and changes what must be.
func (x *seen) did(e api.Ev, change func(p *audit.Picture), want ...api.Rec) {
	x.Helper()
	got := x.k.Do(e)
	if len(got) != len(want) || len(got) > 0 && got[0] != want[0] {
		x.Fatalf("Do(%+v) = %+v, want %+v", e, got, want)
	}
	change(&x.want)
	x.same()
}

// ok does an event that is answered OK.
func (x *seen) ok(e api.Ev, id int, change func(p *audit.Picture)) {
	x.Helper()
	x.did(e, change, api.Rec{Kind: api.RecRet, Id: id})
}

// step lets a core take a step that is not told.
func (x *seen) step(cpu int, change func(p *audit.Picture)) {
	x.Helper()
	x.did(api.Ev{Kind: api.EvStep, Cpu: cpu}, change)
}

func nothing(*audit.Picture) {}

// P35.1: of nil.
func TestOfNil(t *testing.T) {
	if p, why := audit.Of(nil); why != api.ErrNil || !reflect.DeepEqual(p, audit.Picture{}) {
		t.Errorf("Of(nil) = %+v, %d", p, why)
	}
	// A kernel that New did not make has no cores.
	p, why := audit.Of(&kernel.Kernel{})
	if why != api.OK {
		t.Errorf("Of(zero) = %+v, %d", p, why)
	}
	alike(t, p, audit.Picture{})
}

// P35.1, and example 1: of new kernels.
func TestOfNew(t *testing.T) {
	for cpus := 1; cpus <= 64; cpus++ {
		newSeen(t, cpus)
	}
	if p := of(t, made(t, 64)); p.Power != 1<<64-1 || p.Cpus != 64 {
		t.Errorf("%+v", p)
	}
	if p := of(t, made(t, 1)); p.Active != 1 || p.Online != 1 || p.Power != 1 || p.Cpus != 1 {
		t.Errorf("%+v", p)
	}
}

// P35.1: threads by their numbers, the queues as they tell them, sleepers with their timers.
func TestOfThreads(t *testing.T) {
	x := newSeen(t, 3)
	for id, prio := range []int{1, 3, 3, 1, 7} {
		x.ok(api.Ev{Kind: api.EvSpawn, Id: prio, Mask: 5}, id+1, func(p *audit.Picture) {
			p.Threads = []audit.Thread{{1, 2, 0}, {2, 2, 0}, {3, 0, 0}, {4, 2, 0}, {5, 2, 0}}[:id+1]
			p.Queued = [][]audit.Place{{{1, 2, 0}}, {{2, 2, 0}, {1, 2, 0}}, {{3, 0, 0}, {2, 2, 0}, {1, 2, 0}}, {{3, 0, 0}, {2, 2, 0}, {1, 2, 0}, {4, 2, 0}}, {{3, 0, 0}, {5, 2, 0}, {2, 2, 0}, {1, 2, 0}, {4, 2, 0}}}[id]
		})
	}
	x.ok(api.Ev{Kind: api.EvYield, Id: 1}, 0, func(p *audit.Picture) {
		p.Queued = []audit.Place{{3, 0, 0}, {5, 2, 0}, {2, 2, 0}, {4, 2, 0}, {1, 2, 0}}
	})
	x.ok(api.Ev{Kind: api.EvSleep, Id: 5, N: 7}, 1, func(p *audit.Picture) {
		p.Threads[4].Timer, p.Timers = 1, []audit.Place{{1, 2, 5}}
		p.Queued = []audit.Place{{3, 0, 0}, {2, 2, 0}, {4, 2, 0}, {1, 2, 0}}
	})
	x.ok(api.Ev{Kind: api.EvSleep, Id: 3, N: 9}, 2, func(p *audit.Picture) {
		p.Threads[2].Timer, p.Timers, p.Queued = 2, []audit.Place{{2, 0, 3}, {1, 2, 5}}, p.Queued[1:]
	})
	x.ok(api.Ev{Kind: api.EvSleep, Id: 2, N: 2}, 3, func(p *audit.Picture) {
		p.Threads[1].Timer, p.Timers, p.Queued = 3, []audit.Place{{2, 0, 3}, {3, 2, 2}, {1, 2, 5}}, p.Queued[1:]
	})
	x.did(api.Ev{Kind: api.EvSleep, Id: 2, N: 2}, nothing, api.Rec{Kind: api.RecRet, Why: api.ErrState})
	x.ok(api.Ev{Kind: api.EvAffin, Id: 4, Mask: 2}, 0, func(p *audit.Picture) {
		p.Threads[3].Cpu, p.Queued = 1, []audit.Place{{4, 1, 0}, {1, 2, 0}}
	})
	// A sleeper's core is that on which it was, whatever it is for by now.
	x.ok(api.Ev{Kind: api.EvAffin, Id: 5, Mask: 2}, 0, nothing)
	x.ok(api.Ev{Kind: api.EvWake, Id: 5}, 0, func(p *audit.Picture) {
		p.Threads[4] = audit.Thread{5, 1, 0}
		p.Timers, p.Queued = p.Timers[:2], []audit.Place{{5, 1, 0}, {4, 1, 0}, {1, 2, 0}}
	})
	x.ok(api.Ev{Kind: api.EvTick, N: 2}, 0, nothing)
	x.did(api.Ev{Kind: api.EvStep, Cpu: 2}, func(p *audit.Picture) {
		p.Threads[1].Timer, p.Timers = 0, p.Timers[:1]
		p.Queued = []audit.Place{{5, 1, 0}, {4, 1, 0}, {2, 2, 0}, {1, 2, 0}}
	}, api.Rec{Kind: api.RecFire, Cpu: 2, Id: 3, N: 2})
	x.did(api.Ev{Kind: api.EvStep, Cpu: 2}, nothing, api.Rec{Kind: api.RecRun, Cpu: 2, Id: 2})
	x.ok(api.Ev{Kind: api.EvExit, Id: 3}, 0, func(p *audit.Picture) {
		p.Timers, p.Threads = nil, []audit.Thread{{1, 2, 0}, {2, 2, 0}, {4, 1, 0}, {5, 1, 0}}
	})
	x.ok(api.Ev{Kind: api.EvAffin, Id: 1, Mask: 7}, 0, nothing)
	x.ok(api.Ev{Kind: api.EvExit, Id: 4}, 0, func(p *audit.Picture) {
		p.Threads, p.Queued = []audit.Thread{{1, 2, 0}, {2, 2, 0}, {5, 1, 0}}, []audit.Place{{5, 1, 0}, {2, 2, 0}, {1, 2, 0}}
	})
	x.ok(api.Ev{Kind: api.EvBalance}, 1, func(p *audit.Picture) {
		p.Threads[0].Cpu, p.Queued = 0, []audit.Place{{1, 0, 0}, {5, 1, 0}, {2, 2, 0}}
	})
}

// P35.1: timers that wake nobody, on each core as they are due.
func TestOfTimers(t *testing.T) {
	x := newSeen(t, 2)
	for id, c := range []struct {
		cpu  int
		n    int64
		want []audit.Place
	}{{1, 9, []audit.Place{{1, 1, 0}}}, {0, 9, []audit.Place{{2, 0, 0}, {1, 1, 0}}}, {1, 3, []audit.Place{{2, 0, 0}, {3, 1, 0}, {1, 1, 0}}}, {0, 9, []audit.Place{{2, 0, 0}, {4, 0, 0}, {3, 1, 0}, {1, 1, 0}}}, {0, 0, []audit.Place{{5, 0, 0}, {2, 0, 0}, {4, 0, 0}, {3, 1, 0}, {1, 1, 0}}}} {
		x.ok(api.Ev{Kind: api.EvArm, Cpu: c.cpu, N: c.n}, id+1, func(p *audit.Picture) { p.Timers = c.want })
	}
	x.did(api.Ev{Kind: api.EvStep, Cpu: 0}, func(p *audit.Picture) { p.Timers = p.Timers[1:] }, api.Rec{Kind: api.RecFire, Cpu: 0, Id: 5})
	x.ok(api.Ev{Kind: api.EvCancel, Id: 4}, 0, func(p *audit.Picture) { p.Timers = []audit.Place{{2, 0, 0}, {3, 1, 0}, {1, 1, 0}} })
}

// P35.1: interrupts by their numbers, whichever their cores are.
func TestOfIrqs(t *testing.T) {
	x := newSeen(t, 3)
	x.ok(api.Ev{Kind: api.EvRequest, Id: 4, Mask: 1}, 0, func(p *audit.Picture) { p.Irqs = []audit.Place{{4, 0, 0}} })
	x.ok(api.Ev{Kind: api.EvRequest, Id: 15, Mask: 6}, 0, func(p *audit.Picture) { p.Irqs = []audit.Place{{4, 0, 0}, {15, 1, 0}} })
	x.ok(api.Ev{Kind: api.EvRequest, Id: 0, Mask: 4}, 0, func(p *audit.Picture) { p.Irqs = []audit.Place{{0, 2, 0}, {4, 0, 0}, {15, 1, 0}} })
	x.ok(api.Ev{Kind: api.EvMask, Id: 4}, 0, nothing)
	x.ok(api.Ev{Kind: api.EvRaise, Id: 4}, 0, nothing)
	x.ok(api.Ev{Kind: api.EvRoute, Id: 4, Mask: 2}, 0, func(p *audit.Picture) { p.Irqs[1].Cpu = 1 })
	x.ok(api.Ev{Kind: api.EvRaise, Id: 0}, 0, nothing)
	x.did(api.Ev{Kind: api.EvStep, Cpu: 2}, nothing, api.Rec{Kind: api.RecHandle, Cpu: 2, Id: 0})
	x.ok(api.Ev{Kind: api.EvFree, Id: 15}, 0, func(p *audit.Picture) { p.Irqs = p.Irqs[:2] })
	// No event takes the route of one that is wanted away: the kernel's part is asked to.
	x.k.Route().Off(0)
	alike(t, of(t, x.k), func() audit.Picture { x.want.Irqs[0].Cpu = -1; return x.want }())
	judged(t, of(t, x.k), 4)
	x.k.Route().Off(4)
	if p := of(t, x.k); len(p.Irqs) != 2 || p.Irqs[0] != (audit.Place{Id: 0, Cpu: -1}) || p.Irqs[1] != (audit.Place{Id: 4, Cpu: -1}) {
		t.Error(p.Irqs)
	}
	// What is routed without being wanted is not told.
	x.k.Route().Set(7, 1)
	if p := of(t, x.k); len(p.Irqs) != 2 {
		t.Error(p.Irqs)
	}
}

// P35.1: works, those of Free ahead; calls; objects that are kept.
func TestOfStores(t *testing.T) {
	x := newSeen(t, 3)
	for id, c := range []struct {
		cpu  int
		want []audit.Place
	}{{2, []audit.Place{{1, 2, 0}}}, {-1, []audit.Place{{2, -1, 0}, {1, 2, 0}}}, {0, []audit.Place{{2, -1, 0}, {3, 0, 0}, {1, 2, 0}}}, {-1, []audit.Place{{2, -1, 0}, {4, -1, 0}, {3, 0, 0}, {1, 2, 0}}}, {0, []audit.Place{{2, -1, 0}, {4, -1, 0}, {3, 0, 0}, {5, 0, 0}, {1, 2, 0}}}} {
		x.ok(api.Ev{Kind: api.EvQueue, Cpu: c.cpu}, id+1, func(p *audit.Picture) { p.Works = c.want })
	}
	x.did(api.Ev{Kind: api.EvStep, Cpu: 1}, func(p *audit.Picture) { p.Works = p.Works[1:] }, api.Rec{Kind: api.RecWork, Cpu: 1, Id: 2})
	for id, c := range []struct {
		cpu  int
		want []audit.Place
	}{{2, []audit.Place{{1, 2, 0}}}, {1, []audit.Place{{2, 1, 0}, {1, 2, 0}}}, {2, []audit.Place{{2, 1, 0}, {1, 2, 0}, {3, 2, 0}}}, {0, []audit.Place{{4, 0, 0}, {2, 1, 0}, {1, 2, 0}, {3, 2, 0}}}} {
		x.ok(api.Ev{Kind: api.EvCall, Cpu: c.cpu}, id+1, func(p *audit.Picture) { p.Calls = c.want })
	}
	x.did(api.Ev{Kind: api.EvStep, Cpu: 2}, func(p *audit.Picture) { p.Calls = []audit.Place{{4, 0, 0}, {2, 1, 0}, {3, 2, 0}} }, api.Rec{Kind: api.RecCall, Cpu: 2, Id: 1})
	x.ok(api.Ev{Kind: api.EvAlloc, Cpu: 2}, 2, func(p *audit.Picture) { p.Kept = []audit.Place{{1, 2, 0}} })
	x.ok(api.Ev{Kind: api.EvAlloc, Cpu: 1}, 4, func(p *audit.Picture) { p.Kept = []audit.Place{{3, 1, 0}, {1, 2, 0}} })
	x.ok(api.Ev{Kind: api.EvGive, Cpu: 1, Id: 2}, 0, func(p *audit.Picture) { p.Kept = []audit.Place{{3, 1, 0}, {2, 1, 0}, {1, 2, 0}} })
	x.ok(api.Ev{Kind: api.EvGive, Cpu: 0, Id: 4}, 0, func(p *audit.Picture) { p.Kept = []audit.Place{{4, 0, 0}, {3, 1, 0}, {2, 1, 0}, {1, 2, 0}} })
	x.ok(api.Ev{Kind: api.EvAlloc, Cpu: 1}, 2, func(p *audit.Picture) { p.Kept = []audit.Place{{4, 0, 0}, {3, 1, 0}, {1, 2, 0}} })
	for _, e := range []api.Ev{{Kind: api.EvHold, Cpu: 1}, {Kind: api.EvLimit, N: 3}, {Kind: api.EvSpeed, Id: 5, N: 9}, {Kind: api.EvFail, N: 3}, {Kind: api.EvFlush, Id: 9}} {
		x.ok(e, 0, nothing)
	}
}

// loaded has something of each kind on each of three cores, and most of it on core 1.
func loaded(t *testing.T) *seen {
	x := newSeen(t, 3)
	for _, e := range []api.Ev{
		{Kind: api.EvSpawn, Id: 1, Mask: 7}, {Kind: api.EvSpawn, Id: 1, Mask: 7}, {Kind: api.EvSpawn, Id: 1, Mask: 2},
		{Kind: api.EvSleep, Id: 2, N: 5}, {Kind: api.EvSleep, Id: 3, N: 9}, {Kind: api.EvArm, Cpu: 1, N: 4},
		{Kind: api.EvRequest, Id: 3, Mask: 2}, {Kind: api.EvRequest, Id: 5, Mask: 7}, {Kind: api.EvRequest, Id: 4, Mask: 1},
		{Kind: api.EvQueue, Cpu: -1}, {Kind: api.EvQueue, Cpu: 2}, {Kind: api.EvQueue, Cpu: 1}, {Kind: api.EvQueue, Cpu: 1},
		{Kind: api.EvCall, Cpu: 2}, {Kind: api.EvCall, Cpu: 1}, {Kind: api.EvCall, Cpu: 1},
		{Kind: api.EvAlloc, Cpu: 1}, {Kind: api.EvAlloc, Cpu: 0}, {Kind: api.EvAlloc, Cpu: 2}, {Kind: api.EvGive, Cpu: 1, Id: 2},
	} {
		if l := x.k.Do(e); len(l) != 1 || l[0].Why != api.OK {
			t.Fatalf("Do(%+v) = %+v", e, l)
		}
	}
	x.want.Threads = []audit.Thread{{1, 1, 0}, {2, 2, 1}, {3, 1, 2}}
	x.want.Queued = []audit.Place{{1, 1, 0}}
	x.want.Timers = []audit.Place{{3, 1, 0}, {2, 1, 3}, {1, 2, 2}}
	x.want.Irqs = []audit.Place{{3, 1, 0}, {4, 0, 0}, {5, 2, 0}}
	x.want.Works = []audit.Place{{1, -1, 0}, {3, 1, 0}, {4, 1, 0}, {2, 2, 0}}
	x.want.Calls = []audit.Place{{2, 1, 0}, {3, 1, 0}, {1, 2, 0}}
	x.want.Kept = []audit.Place{{3, 0, 0}, {1, 1, 0}, {2, 1, 0}, {5, 2, 0}}
	x.same()
	return x
}

// going lets core 1 go, up to its last stage, act by act.
func (x *seen) going() {
	x.Helper()
	x.ok(api.Ev{Kind: api.EvOffline, Cpu: 1}, 0, func(p *audit.Picture) { p.Busy, p.Cpu, p.By = true, 1, 0 })
	x.step(0, nothing) // 0
	x.step(0, func(p *audit.Picture) { p.Active = 5 })
	x.step(0, func(p *audit.Picture) { p.Threads[0].Cpu, p.Queued = 2, []audit.Place{{1, 2, 0}} })
	x.step(0, nothing) // 2 is done
	x.step(0, func(p *audit.Picture) { p.Timers = []audit.Place{{3, 0, 0}, {2, 1, 3}, {1, 2, 2}} })
	x.step(0, func(p *audit.Picture) { p.Timers = []audit.Place{{3, 0, 0}, {2, 0, 3}, {1, 2, 2}} })
	x.step(0, nothing) // 3 is done
	x.step(0, func(p *audit.Picture) { p.Works = []audit.Place{{1, -1, 0}, {3, -1, 0}, {4, 1, 0}, {2, 2, 0}} })
	x.step(0, func(p *audit.Picture) { p.Works = []audit.Place{{1, -1, 0}, {3, -1, 0}, {4, -1, 0}, {2, 2, 0}} })
	x.step(0, nothing) // 4 is done
	x.step(0, func(p *audit.Picture) { p.Calls = []audit.Place{{2, 0, 0}, {3, 1, 0}, {1, 2, 0}} })
	x.step(0, func(p *audit.Picture) { p.Calls = []audit.Place{{2, 0, 0}, {3, 0, 0}, {1, 2, 0}} })
	x.step(0, nothing) // 5 is done
	x.step(0, nothing) // the stop begins
	x.step(0, nothing) // it is not ready
	x.step(2, nothing)
	x.step(1, nothing)
	x.step(0, func(p *audit.Picture) { p.Irqs = []audit.Place{{3, 2, 0}, {4, 0, 0}, {5, 2, 0}} })
	x.step(0, func(p *audit.Picture) { p.Kept = []audit.Place{{3, 0, 0}, {5, 2, 0}} })
	x.step(0, nothing) // 8
}

// gone lets core 1 go.
func (x *seen) gone() {
	x.Helper()
	x.going()
	x.did(api.Ev{Kind: api.EvStep}, func(p *audit.Picture) {
		p.Online, p.Power, p.Busy, p.Cpu = 5, 5, false, 0
	}, api.Rec{Kind: api.RecHot, Cpu: 1})
}

// P35.1 at each act of a going, and of the coming behind it.
func TestOfRequests(t *testing.T) {
	x := loaded(t)
	x.gone()
	x.did(api.Ev{Kind: api.EvOffline, Cpu: 1}, nothing, api.Rec{Kind: api.RecRet, Why: api.ErrOffline})
	x.ok(api.Ev{Kind: api.EvOnline, Cpu: 1}, 0, func(p *audit.Picture) { p.Busy, p.Up, p.Cpu, p.By = true, true, 1, 0 })
	x.did(api.Ev{Kind: api.EvOffline, Cpu: 2}, nothing, api.Rec{Kind: api.RecRet, Why: api.ErrBusy})
	x.step(0, nothing) // 0
	x.step(0, func(p *audit.Picture) { p.Power = 7 })
	x.step(0, nothing) // 2
	x.did(api.Ev{Kind: api.EvStep}, func(p *audit.Picture) {
		p.Online, p.Active, p.Busy, p.Up, p.Cpu = 7, 7, false, false, 0
		p.Irqs[0].Cpu = 1
	}, api.Rec{Kind: api.RecHot, Cpu: 1})
	// Core 0 goes by core 1's steps.
	x.ok(api.Ev{Kind: api.EvOffline, Cpu: 0}, 0, func(p *audit.Picture) { p.Busy, p.Cpu, p.By = true, 0, 1 })
}

// P35.1 of requests that fail, and are undone.
func TestOfFailures(t *testing.T) {
	x := loaded(t)
	x.ok(api.Ev{Kind: api.EvFail, N: 9}, 0, nothing)
	x.going()
	for range 9 { // 9 fails; the undoing from 8 to 2 comes before 1
		if x.k.Do(api.Ev{Kind: api.EvStep}); x.k.Active() == 7 {
			break
		}
		x.same()
	}
	x.want.Active = 7
	x.same()
	x.did(api.Ev{Kind: api.EvStep}, func(p *audit.Picture) { p.Busy, p.Cpu = false, 0 }, api.Rec{Kind: api.RecHot, Cpu: 1, Why: api.ErrFail})
	y := loaded(t)
	y.gone()
	y.ok(api.Ev{Kind: api.EvFail, N: 2}, 0, nothing)
	y.ok(api.Ev{Kind: api.EvOnline, Cpu: 1}, 0, func(p *audit.Picture) { p.Busy, p.Up, p.Cpu, p.By = true, true, 1, 0 })
	y.step(0, nothing) // 0
	y.step(0, func(p *audit.Picture) { p.Power = 7 })
	y.step(0, nothing) // 2 fails
	y.step(0, func(p *audit.Picture) { p.Power = 5 })
	y.did(api.Ev{Kind: api.EvStep}, func(p *audit.Picture) { p.Busy, p.Up, p.Cpu = false, false, 0 }, api.Rec{Kind: api.RecHot, Cpu: 1, Why: api.ErrFail})
}

// Of changes nothing, and what it answers is the caller's own: no list of it shares memory with another one.
func TestPicturesAreTheCallers(t *testing.T) {
	x, twin := loaded(t), loaded(t)
	first := of(t, x.k)
	for n, l := range lists(&first) {
		kept := copied(first)
		_ = append(*l, audit.Place{Id: 99, Cpu: 99, Who: 99})
		alike(t, first, kept)
		_ = append((*l)[:0], audit.Place{Id: 98, Cpu: 98, Who: 98})
		for m, other := range lists(&kept) {
			if m != n && !reflect.DeepEqual(*other, append([]audit.Place(nil), *lists(&first)[m]...)) {
				t.Errorf("the lists %d and %d share memory", n, m)
			}
		}
	}
	first.Threads[0].Cpu = 77
	x.same()
	before := of(t, x.k)
	x.k.Do(api.Ev{Kind: api.EvExit, Id: 1})
	x.k.Do(api.Ev{Kind: api.EvStep, Cpu: 1})
	alike(t, before, x.want)
	if y := loaded(t); !reflect.DeepEqual(y.k, twin.k) {
		t.Error("Of changes the kernel")
	}
}
