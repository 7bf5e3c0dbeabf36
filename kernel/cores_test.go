package kernel_test

import (
	"math"
	"slices"
	"testing"

	"davit/api"
	"davit/core"
	"davit/gate"
	"davit/idle"
	"davit/kernel"
	"davit/mask"
	"davit/work"
)

// core says what a core is.
func (b *both) core(cpu int, want core.Core) {
	b.Helper()
	if c, _ := b.k.Cores().Get(cpu); c != want {
		b.Fatalf("core %d is %+v, want %+v", cpu, c, want)
	}
}

// load lets one thing of each kind wait for a core, of two at least: a thread, a timer that is due, an interrupt, a work, a call, an object.
func (b *both) load(cpu int) {
	b.Helper()
	for _, e := range []api.Ev{{Kind: api.EvSpawn, Mask: 1 << cpu}, {Kind: api.EvArm, Cpu: cpu}, {Kind: api.EvRequest, Id: cpu, Mask: 1 << cpu}, {Kind: api.EvRaise, Id: cpu}, {Kind: api.EvQueue, Cpu: cpu}, {Kind: api.EvCall, Cpu: cpu}, {Kind: api.EvAlloc, Cpu: cpu}} {
		if l := b.run(e); len(l) != 1 || l[0].Why != api.OK {
			b.Fatal("load", e, l)
		}
	}
}

// Each thing that a core does, in its order; what is counted of it.
func TestStepInOrder(t *testing.T) {
	b := newBoth(t, 2)
	b.step(0)
	b.core(0, core.Core{Power: true, Idle: true, Way: 3, Steps: 1})
	b.load(0)
	b.ok(api.Ev{Kind: api.EvQueue, Cpu: work.Free}, 2)
	b.step(0)
	b.core(0, core.Core{Power: true, Steps: 2, Busy: 1})
	b.step(0, did(api.RecCall, 0, 1))
	b.step(0, did(api.RecHandle, 0, 0))
	b.step(0, did(api.RecFire, 0, 1))
	b.step(0, did(api.RecWork, 0, 1))
	b.step(0, did(api.RecWork, 0, 2))
	b.step(0, did(api.RecRun, 0, 1))
	b.core(0, core.Core{Power: true, Steps: 8, Busy: 7})
	if list := b.k.Counts().List(); !slices.Equal(list, []int64{6, 0}) {
		t.Fatal("counts", list)
	}
	b.ok(api.Ev{Kind: api.EvExit, Id: 1}, 0)
	b.step(0)
	b.core(0, core.Core{Power: true, Idle: true, Way: 3, Steps: 9, Busy: 7})
	b.step(0)
	b.core(0, core.Core{Power: true, Idle: true, Way: 3, Steps: 10, Busy: 7})
	b.core(1, core.Core{Power: true})
}

// A core that rests, and what comes for it: its next step wakes it, the one behind that does it. What comes for another core does not wake it.
func TestWake(t *testing.T) {
	for _, c := range []struct {
		e    api.Ev
		want api.Rec
	}{
		{api.Ev{Kind: api.EvCall, Cpu: 1}, did(api.RecCall, 1, 1)},
		{api.Ev{Kind: api.EvRaise, Id: 1}, did(api.RecHandle, 1, 1)},
		{api.Ev{Kind: api.EvArm, Cpu: 1}, did(api.RecFire, 1, 1)},
		{api.Ev{Kind: api.EvQueue, Cpu: 1}, did(api.RecWork, 1, 1)},
		{api.Ev{Kind: api.EvQueue, Cpu: -1}, did(api.RecWork, 1, 1)},
		{api.Ev{Kind: api.EvSpawn, Mask: 2}, did(api.RecRun, 1, 1)},
	} {
		b := newBoth(t, 2)
		b.ok(api.Ev{Kind: api.EvRequest, Id: 1, Mask: 2}, 0)
		b.step(1)
		b.ok(api.Ev{Kind: api.EvTick, N: 5}, 0)
		b.load(0)
		b.step(1)
		b.core(1, core.Core{Power: true, Idle: true, Way: 3, Steps: 1})
		for range 6 {
			b.run(api.Ev{Kind: api.EvStep})
		}
		b.ok(api.Ev{Kind: api.EvExit, Id: 1}, 0)
		b.run(c.e)
		b.step(1)
		b.core(1, core.Core{Power: true, Steps: 2, Busy: 1})
		b.step(1, c.want)
	}
}

// The way to rest hangs on when the core's first timer is due, and on the latency limit.
func TestRest(t *testing.T) {
	for _, c := range []struct {
		due, limit int64
		way        int
	}{
		{0, 1 << 30, 3}, {400, 1 << 30, 3}, {399, 1 << 30, 2}, {50, 1 << 30, 2}, {49, 1 << 30, 1}, {10, 1 << 30, 1}, {9, 1 << 30, 0}, {1, 1 << 30, 0},
		{0, 50, 3}, {0, 49, 2}, {0, 10, 2}, {0, 9, 1}, {0, 2, 1}, {0, 1, 0}, {0, 0, 0}, {20, 10, 1}, {60, 5, 1}, {1 << 30, 50, 3},
	} {
		b := newBoth(t, 2)
		b.ok(api.Ev{Kind: api.EvTick, N: 1000}, 0)
		b.ok(api.Ev{Kind: api.EvLimit, N: c.limit}, 0)
		b.ok(api.Ev{Kind: api.EvArm, Cpu: 0, N: 3}, 1)
		if c.due > 0 {
			b.ok(api.Ev{Kind: api.EvArm, Cpu: 1, N: c.due}, 2)
			b.ok(api.Ev{Kind: api.EvArm, Cpu: 1, N: 1 << 30}, 3)
		}
		b.step(1)
		b.core(1, core.Core{Power: true, Idle: true, Way: c.way, Since: 1000, Steps: 1})
		if idle.Table()[c.way].Exit > c.limit {
			t.Fatal("it wakes too late", c)
		}
	}
}

func TestLimitAndSpeed(t *testing.T) {
	b := newBoth(t, 3)
	for _, n := range noDelays {
		b.no(api.Ev{Kind: api.EvLimit, N: n}, api.ErrArg)
	}
	for _, e := range []api.Ev{{Id: 0, N: 5}, {Id: -1, N: 5}, {Id: 6, N: 5}, {Id: 1, N: 100001}, {Id: 1, N: -1}, {Id: math.MinInt, N: 5}, {Id: math.MaxInt, N: 5}, {Id: 1, N: math.MaxInt64}, {Id: 1<<32 + 1, N: 5}} {
		e.Kind = api.EvSpeed
		b.no(e, api.ErrArg)
	}
	limits := func(low, high int64) {
		t.Helper()
		for cpu := range 3 {
			if a, z := b.k.Gov(cpu).Limits(); a != low || z != high {
				t.Fatal("limits", cpu, a, z)
			}
		}
	}
	limits(100, 1000)
	b.ok(api.Ev{Kind: api.EvSpeed, Id: 1, N: 100000}, 0)
	limits(1, 100000)
	// A core that has gone has these limits, too.
	b.leave(2)
	b.ok(api.Ev{Kind: api.EvSpeed, Id: 7, N: 7}, 0)
	limits(7, 7)
	b.ok(api.Ev{Kind: api.EvLimit, N: 0}, 0)
	b.ok(api.Ev{Kind: api.EvLimit, N: api.MaxDelay}, 0)
}

// The clock, with a core that works, one that rests, and one without power.
func TestClock(t *testing.T) {
	b := newBoth(t, 3)
	b.leave(2)
	b.ok(api.Ev{Kind: api.EvTick, N: 0}, 0)
	b.spawn(0, 1, 1)
	was, _ := b.k.Cores().Get(2)
	for range 3 {
		b.step(0, did(api.RecRun, 0, 1))
		b.step(1)
	}
	b.ok(api.Ev{Kind: api.EvExit, Id: 1}, 0)
	before := []int64{b.k.Meter().Energy(0), b.k.Meter().Energy(1), b.k.Meter().Energy(2)}
	b.ok(api.Ev{Kind: api.EvTick, N: 10}, 0)
	fast := b.k.Gov(0).Freq()
	if b.k.Meter().Energy(0)-before[0] != 10*fast || fast <= 100 {
		t.Fatal("core 0 worked", b.k.Meter().Energy(0), before, fast)
	}
	if b.k.Meter().Energy(1)-before[1] != 50 || b.k.Meter().Rested(1, 3) != 10 {
		t.Fatal("core 1 rested", b.k.Meter().Energy(1), before)
	}
	if b.k.Meter().Energy(2) != before[2] || b.k.Meter().Ticks(2) != 0 {
		t.Fatal("core 2 has no power", b.k.Meter().Energy(2), before)
	}
	b.core(0, core.Core{Power: true})
	b.core(1, core.Core{Power: true, Idle: true, Way: 3})
	b.core(2, was)
	if was.Steps == 0 {
		t.Fatal("core 2 took no steps")
	}
	// Four feeds without a busy step: it is as slow as can be.
	for range 4 {
		b.ok(api.Ev{Kind: api.EvTick, N: 1}, 0)
	}
	if b.k.Gov(0).Freq() != 100 {
		t.Fatal("frequency", b.k.Gov(0).Freq())
	}
	if b.k.Now() != 14 {
		t.Fatal("tick", b.k.Now())
	}
}

// What the meter refuses is not told: the clock goes on.
func TestMeterIsFull(t *testing.T) {
	b := newBoth(t, 1)
	b.ok(api.Ev{Kind: api.EvSpeed, Id: 100000, N: 100000}, 0)
	for range 1<<62/(100000<<30) + 3 {
		e := api.Ev{Kind: api.EvTick, N: 1 << 30}
		if l := b.k.Do(e); !slices.Equal(l, b.p.do(e)) || l[0].Why != api.OK {
			t.Fatal("tick", l)
		}
	}
	same(t, b.k, b.p)
	if b.k.Meter().Energy(0)+100000<<30 <= 1<<62 || b.k.Now() <= b.k.Meter().Ticks(0) {
		t.Fatal("the meter is not full", b.k.Meter().Energy(0))
	}
}

func TestRequestsRefused(t *testing.T) {
	b := newBoth(t, 2)
	b.no(api.Ev{Kind: api.EvOnline, Cpu: 1}, api.ErrOnline)
	b.leave(1)
	b.no(api.Ev{Kind: api.EvOffline, Cpu: 1}, api.ErrOffline)
	b.no(api.Ev{Kind: api.EvOffline, Cpu: 0}, api.ErrLast)
	b.no(api.Ev{Kind: api.EvOnline, Cpu: 0}, api.ErrOnline)
	b.ok(api.Ev{Kind: api.EvOnline, Cpu: 1}, 0)
	for cpu := range 2 {
		b.no(api.Ev{Kind: api.EvOnline, Cpu: cpu}, api.ErrBusy)
		b.no(api.Ev{Kind: api.EvOffline, Cpu: cpu}, api.ErrBusy)
	}
	for _, cpu := range append([]int{-1, 2}, noCores...) {
		b.no(api.Ev{Kind: api.EvOnline, Cpu: cpu}, api.ErrRange)
		b.no(api.Ev{Kind: api.EvOffline, Cpu: cpu}, api.ErrRange)
	}
	for _, n := range []int64{math.MinInt64, -1 << 32, -1, 10, 11, 1 << 32, 1<<32 + 1, math.MaxInt64} {
		b.no(api.Ev{Kind: api.EvFail, N: n}, api.ErrRange)
	}
	b.finish(1, api.OK)
}

// A request is by the steps of the lowest active core that is another one.
func TestByWhom(t *testing.T) {
	b := newBoth(t, 4)
	by := func(kind, cpu, want int) {
		t.Helper()
		b.ok(api.Ev{Kind: kind, Cpu: cpu}, 0)
		if d := b.k.Desk(); d.By() != want || d.Cpu() != cpu || d.Up() != (kind == api.EvOnline) || b.k.Gate().State() != gate.Wanted {
			t.Fatal("by", d.By(), d.Cpu(), d.Up())
		}
		b.finish(cpu, api.OK)
	}
	by(api.EvOffline, 2, 0)
	by(api.EvOffline, 0, 1)
	by(api.EvOffline, 1, 3)
	by(api.EvOnline, 0, 3)
	by(api.EvOnline, 2, 0)
	by(api.EvOffline, 0, 2)
	by(api.EvOnline, 1, 2)
	by(api.EvOnline, 0, 1)
}

// Each stage of going, act by act.
func TestGoing(t *testing.T) {
	b := newBoth(t, 3)
	b.load(1)
	b.load(0)
	b.spawn(7, 2, 3)
	b.ok(api.Ev{Kind: api.EvArm, Cpu: 1, N: 8}, 3)
	b.ok(api.Ev{Kind: api.EvQueue, Cpu: 1}, 3)
	b.ok(api.Ev{Kind: api.EvCall, Cpu: 1}, 3)
	b.ok(api.Ev{Kind: api.EvRequest, Id: 7, Mask: 6}, 0)
	b.step(1, did(api.RecCall, 1, 1))
	b.ok(api.Ev{Kind: api.EvCall, Cpu: 1}, 1)
	b.step(2)
	b.ok(api.Ev{Kind: api.EvOffline, Cpu: 1}, 0)
	b.step(0)
	if b.k.Gate().State() != gate.Taken || b.k.Active() != 7 {
		t.Fatal("stage 0", b.k.Gate().State(), b.k.Active())
	}
	b.step(1, did(api.RecCall, 1, 3))
	b.step(0)
	if b.k.Active() != 5 || b.k.Online() != 7 {
		t.Fatal("stage 1", b.k.Active(), b.k.Online())
	}
	b.step(1)
	b.no(api.Ev{Kind: api.EvCall, Cpu: 1}, api.ErrOffline)
	// Both threads are for core 1 alone: they are forced to the core behind it.
	b.queue(1, 3, 1)
	b.step(0)
	b.queue(1, 1)
	b.queue(2, 3)
	b.where(3, 2, true)
	b.step(0)
	b.queue(2, 3, 1)
	b.step(0)
	// Timers, the first one first, each to the core by whose steps it is.
	for _, want := range [][]int{{1, 2}, {1, 2, 3}, {1, 2, 3}} {
		b.step(0)
		if got := b.k.Timers().List(0); !slices.Equal(got, want) {
			t.Fatal("timers", got)
		}
	}
	for _, want := range [][]int{{1}, {1, 3}, {1, 3}} {
		b.step(0)
		if got := b.k.Works().List(work.Free); !slices.Equal(got, want) {
			t.Fatal("works", got)
		}
	}
	for _, want := range [][]int{{2, 1}, {2, 1}} {
		b.step(0)
		if got := b.k.Calls().List(0); !slices.Equal(got, want) {
			t.Fatal("calls", got)
		}
	}
	b.step(0)
	if b.k.Stop().Left() != 6 || b.k.Stop().Ready() {
		t.Fatal("stop", b.k.Stop().Left())
	}
	b.step(0)
	b.step(1)
	b.step(0)
	// Core 2 rests, and is to stand still: it wakes first.
	b.step(2)
	if !b.k.Stop().Must(2) {
		t.Fatal("core 2 stands still ahead of waking")
	}
	b.step(2)
	if !b.k.Stop().Ready() || b.k.Route().Cores() != 7-4 {
		t.Fatal("stop", b.k.Stop().Left(), b.k.Route().Cores())
	}
	// It stands still, though a thread waits for it.
	b.step(2)
	b.step(0)
	if got := b.k.Route().On(2); !slices.Equal(got, []int{1, 7}) || b.k.Stop().On() {
		t.Fatal("routes", got)
	}
	b.step(2, did(api.RecHandle, 2, 1))
	b.step(2, did(api.RecWork, 2, 1))
	if kept := b.k.Objects().Kept(1); len(kept) != 1 {
		t.Fatal("kept", kept)
	}
	b.step(0)
	if kept := b.k.Objects().Kept(1); len(kept) != 0 {
		t.Fatal("kept", kept)
	}
	if list := b.k.Counts().List(); !slices.Equal(list, []int64{0, 2, 2}) {
		t.Fatal("counts", list)
	}
	b.step(0)
	if list := b.k.Counts().List(); !slices.Equal(list, []int64{2, 0, 2}) || b.k.Online() != 7 {
		t.Fatal("counts", list)
	}
	b.step(0, api.Rec{Kind: api.RecHot, Cpu: 1})
	gone(t, b.k, 1)
	if b.k.Gate().State() != gate.Open || b.k.Desk().Busy() {
		t.Fatal("a request that is over", b.k.Gate().State())
	}
	b.step(1)
	b.step(0, did(api.RecCall, 0, 2))
	b.step(0, did(api.RecCall, 0, 1))
}

// A request waits for the readers that are there; no other one comes.
func TestReaders(t *testing.T) {
	for _, kind := range []int{api.EvOffline, api.EvOnline} {
		b := newBoth(t, 3)
		if kind == api.EvOnline {
			b.leave(1)
		}
		b.ok(api.Ev{Kind: api.EvHold, Cpu: 0}, 0)
		b.ok(api.Ev{Kind: api.EvHold, Cpu: 2}, 0)
		b.no(api.Ev{Kind: api.EvDrop, Cpu: 1}, api.ErrEmpty)
		b.ok(api.Ev{Kind: kind, Cpu: 1}, 0)
		b.no(api.Ev{Kind: api.EvHold, Cpu: 0}, api.ErrBusy)
		// A stage that is told already does not fail any more: it is under way.
		b.step(0)
		b.ok(api.Ev{Kind: api.EvFail, N: 0}, 0)
		b.step(0)
		b.ok(api.Ev{Kind: api.EvDrop, Cpu: 2}, 0)
		b.step(0)
		b.ok(api.Ev{Kind: api.EvDrop, Cpu: 0}, 0)
		if b.k.Gate().State() != gate.Wanted {
			t.Fatal("gate", b.k.Gate().State())
		}
		b.step(0)
		if b.k.Gate().State() != gate.Taken {
			t.Fatal("gate", b.k.Gate().State())
		}
		b.no(api.Ev{Kind: api.EvHold, Cpu: 2}, api.ErrBusy)
		b.finish(1, api.OK)
		b.ok(api.Ev{Kind: api.EvHold, Cpu: 2}, 0)
		b.ok(api.Ev{Kind: api.EvDrop, Cpu: 2}, 0)
		// What was planned is for the next request, which ends in its first step.
		b.ok(api.Ev{Kind: api.EvOffline, Cpu: 2}, 0)
		b.step(0, api.Rec{Kind: api.RecHot, Cpu: 2, Why: api.ErrFail})
	}
}

func TestReadersAreFull(t *testing.T) {
	b := newBoth(t, 2)
	for n := range 1000 {
		if l := b.k.Do(api.Ev{Kind: api.EvHold, Cpu: n % 2}); l[0].Why != api.OK {
			t.Fatal("hold", n, l)
		}
		b.p.do(api.Ev{Kind: api.EvHold, Cpu: n % 2})
	}
	b.no(api.Ev{Kind: api.EvHold, Cpu: 1}, api.ErrFull)
	b.ok(api.Ev{Kind: api.EvDrop, Cpu: 1}, 0)
	b.ok(api.Ev{Kind: api.EvHold, Cpu: 0}, 0)
}

// Each stage of going fails: what was done is undone, and the core is active as before.
func TestGoingFails(t *testing.T) {
	for stage := range int64(10) {
		b := newBoth(t, 3)
		b.load(0)
		b.load(1)
		b.load(2)
		b.ok(api.Ev{Kind: api.EvFail, N: stage}, 0)
		b.ok(api.Ev{Kind: api.EvOffline, Cpu: 1}, 0)
		b.finish(1, api.ErrFail)
		if b.k.Active() != 7 || b.k.Online() != 7 || b.k.Gate().State() != gate.Open || b.k.Stop().On() || b.k.Desk().Busy() {
			t.Fatal("stage", stage, b.k.Active(), b.k.Online(), b.k.Gate().State())
		}
		if c, _ := b.k.Cores().Get(1); !c.Power {
			t.Fatal("stage", stage, "core 1 has no power")
		}
		// What has left core 1 stays where it is.
		at := 1
		if stage > 2 {
			at = 2
		}
		b.where(2, at, stage > 2)
		// It is planned once: the next request is not failed.
		b.leave(1)
		gone(t, b.k, 1)
	}
}

// The steps of a request that fails: one that fails, and one for each stage that is undone.
func TestUndoneStepByStep(t *testing.T) {
	b := newBoth(t, 2)
	b.ok(api.Ev{Kind: api.EvFail, N: 3}, 0)
	b.ok(api.Ev{Kind: api.EvOffline, Cpu: 1}, 0)
	for range 3 {
		b.step(0)
	}
	b.step(0) // stage 3 fails
	b.step(0) // stage 2 is undone
	if b.k.Active() != 1 {
		t.Fatal("active", b.k.Active())
	}
	// Undoing is not failed by what is planned.
	b.ok(api.Ev{Kind: api.EvFail, N: 0}, 0)
	b.step(0)
	if b.k.Active() != 3 || b.k.Gate().State() != gate.Taken {
		t.Fatal("active", b.k.Active())
	}
	b.ok(api.Ev{Kind: api.EvCall, Cpu: 1}, 1)
	b.step(1, did(api.RecCall, 1, 1))
	b.step(0, api.Rec{Kind: api.RecHot, Cpu: 1, Why: api.ErrFail})
	b.ok(api.Ev{Kind: api.EvHold, Cpu: 1}, 0)
}

// Each stage of coming, and each that fails.
func TestComing(t *testing.T) {
	b := newBoth(t, 3)
	b.spawn(0, 2, 1)
	b.spawn(0, 2, 2)
	b.spawn(0, 7, 3)
	b.ok(api.Ev{Kind: api.EvSleep, Id: 2, N: 5}, 1)
	b.ok(api.Ev{Kind: api.EvRequest, Id: 3, Mask: 2}, 0)
	b.ok(api.Ev{Kind: api.EvRequest, Id: 4, Mask: 6}, 0)
	b.leave(1)
	b.where(1, 2, true)
	b.where(2, 1, false)
	b.ok(api.Ev{Kind: api.EvAffin, Id: 3, Mask: 6}, 0)
	b.where(3, 2, false)
	// A stage that going has alone is planned: it stays so.
	b.ok(api.Ev{Kind: api.EvFail, N: 4}, 0)
	for _, stage := range []int64{0, 1, 2, 3} {
		b.ok(api.Ev{Kind: api.EvFail, N: stage}, 0)
		b.ok(api.Ev{Kind: api.EvOnline, Cpu: 1}, 0)
		b.finish(1, api.ErrFail)
		gone(t, b.k, 1)
	}
	b.ok(api.Ev{Kind: api.EvOnline, Cpu: 1}, 0)
	b.step(0)
	b.core(1, core.Core{Steps: b.p.cores[1].Steps, Busy: b.p.cores[1].Busy})
	b.step(0)
	if c, _ := b.k.Cores().Get(1); !c.Power || b.k.Online() != 5 || b.k.Active() != 5 {
		t.Fatal("stage 1", c)
	}
	// It has power, and is not active: it does nothing, but its ticks cost.
	b.step(1)
	b.no(api.Ev{Kind: api.EvCall, Cpu: 1}, api.ErrOffline)
	b.ok(api.Ev{Kind: api.EvTick, N: 1}, 0)
	if b.k.Meter().Ticks(1) != 1 {
		t.Fatal("ticks", b.k.Meter().Ticks(1))
	}
	b.step(0)
	b.where(1, 2, true)
	b.step(0, api.Rec{Kind: api.RecHot, Cpu: 1})
	if b.k.Online() != 7 || b.k.Active() != 7 || b.k.Gate().State() != gate.Open {
		t.Fatal("stage 3", b.k.Online(), b.k.Active())
	}
	b.where(1, 1, false)
	b.where(2, 1, false)
	b.where(3, 2, false)
	if on := b.k.Route().On(1); !slices.Equal(on, []int{3}) {
		t.Fatal("routes", on)
	}
	b.step(1, did(api.RecRun, 1, 1))
	b.ok(api.Ev{Kind: api.EvOffline, Cpu: 1}, 0)
	b.finish(1, api.ErrFail)
}

// A thread for a core alone that has gone runs on another one; when the core has come again, it is there at once.
func TestHome(t *testing.T) {
	b := newBoth(t, 2)
	b.spawn(0, 2, 1)
	b.leave(1)
	b.where(1, 0, true)
	b.step(0, did(api.RecRun, 0, 1))
	b.spawn(0, 2, 2)
	b.where(2, 0, true)
	b.spawn(0, 3, 3)
	b.where(3, 0, false)
	b.come(1)
	b.where(1, 1, false)
	b.where(2, 1, false)
	b.where(3, 0, false)
	b.step(1, did(api.RecRun, 1, 1))
	b.step(1, did(api.RecRun, 1, 2))
}

// A thread sleeps on a core that goes: its timer goes to another one, and wakes it there.
func TestSleepsOnACoreThatGoes(t *testing.T) {
	b := newBoth(t, 3)
	b.spawn(4, 2, 1)
	b.spawn(4, 2, 2)
	b.ok(api.Ev{Kind: api.EvSleep, Id: 1, N: 5}, 1)
	b.ok(api.Ev{Kind: api.EvSleep, Id: 2, N: 6}, 2)
	b.leave(1)
	if got := b.k.Timers().List(0); !slices.Equal(got, []int{1, 2}) || b.k.Owner(1) != 1 {
		t.Fatal("timers", got)
	}
	b.where(1, 1, false)
	b.ok(api.Ev{Kind: api.EvTick, N: 5}, 0)
	b.step(0, api.Rec{Kind: api.RecFire, Cpu: 0, Id: 1, N: 1})
	b.where(1, 2, true)
	b.step(2, did(api.RecRun, 2, 1))
	// It wakes when its core has come again: it is there.
	b.come(1)
	b.ok(api.Ev{Kind: api.EvTick, N: 5}, 0)
	b.step(0, api.Rec{Kind: api.RecFire, Cpu: 0, Id: 2, N: 2})
	b.step(1, did(api.RecRun, 1, 1))
	b.step(1, did(api.RecRun, 1, 2))
}

// A thread goes to sleep while the core that it is on goes: its timer is on the lowest active core.
func TestSleepsWhileItsCoreGoes(t *testing.T) {
	b := newBoth(t, 3)
	b.spawn(4, 4, 1)
	b.spawn(4, 4, 2)
	b.spawn(4, 4, 3)
	b.ok(api.Ev{Kind: api.EvOffline, Cpu: 2}, 0)
	b.step(0)
	b.step(0)
	b.ok(api.Ev{Kind: api.EvSleep, Id: 2, N: 5}, 1)
	if cpu, _ := b.k.Timers().Where(1); cpu != 0 {
		t.Fatal("the timer is on", cpu)
	}
	// What it asks else while it is there: all of it is right behind.
	b.ok(api.Ev{Kind: api.EvAffin, Id: 3, Mask: 6}, 0)
	b.where(3, 1, false)
	b.ok(api.Ev{Kind: api.EvYield, Id: 1}, 0)
	b.ok(api.Ev{Kind: api.EvWake, Id: 2}, 0)
	b.where(2, 0, true)
	b.finish(2, api.OK)
	gone(t, b.k, 2)
}

// A core that goes by another one's steps than those of the lowest: that is not where its timers and calls go, if it is the core itself.
func TestLowestCoreGoes(t *testing.T) {
	b := newBoth(t, 3)
	b.load(0)
	b.leave(0)
	gone(t, b.k, 0)
	if b.k.Timers().Load(1) != 1 || b.k.Calls().Load(1) != 1 || b.k.Works().Load(work.Free) != 1 {
		t.Fatal("things of core 0", b.k.Timers().Load(1), b.k.Calls().Load(1))
	}
	b.where(1, 1, true)
	b.step(1, did(api.RecCall, 1, 1))
	b.step(1, did(api.RecHandle, 1, 0))
	b.step(1, did(api.RecFire, 1, 1))
	b.step(1, did(api.RecWork, 1, 1))
	b.step(1, did(api.RecRun, 1, 1))
}

func TestBalance(t *testing.T) {
	b := newBoth(t, 3)
	b.ok(api.Ev{Kind: api.EvBalance}, 0)
	b.spawn(3, 1, 1)
	b.ok(api.Ev{Kind: api.EvBalance}, 0)
	b.spawn(3, 1, 2)
	// Core 0 has two, the others none: but neither may go to core 1.
	b.ok(api.Ev{Kind: api.EvBalance}, 0)
	b.spawn(5, 7, 3)
	b.spawn(0, 1, 4)
	b.spawn(0, 5, 5)
	b.where(5, 2, false)
	b.ok(api.Ev{Kind: api.EvAffin, Id: 5, Mask: 1}, 0)
	b.ok(api.Ev{Kind: api.EvAffin, Id: 5, Mask: 5}, 0)
	b.queue(0, 3, 1, 2, 4, 5)
	b.ok(api.Ev{Kind: api.EvBalance}, 3)
	b.queue(1, 3)
	b.where(3, 1, false)
	b.ok(api.Ev{Kind: api.EvBalance}, 5)
	b.queue(2, 5)
	b.ok(api.Ev{Kind: api.EvBalance}, 0)
	b.queue(0, 1, 2, 4)
	// The last one of those that may goes, behind the others of its priority.
	b.ok(api.Ev{Kind: api.EvAffin, Id: 1, Mask: 7}, 0)
	b.ok(api.Ev{Kind: api.EvAffin, Id: 2, Mask: 7}, 0)
	b.ok(api.Ev{Kind: api.EvBalance}, 2)
	b.queue(1, 3, 2)
	b.ok(api.Ev{Kind: api.EvBalance}, 0)
}

// Cores that are not active have no part in it; a thread that is forced to a core, and goes to one that it is for, is forced no more.
func TestBalanceOfActiveCores(t *testing.T) {
	b := newBoth(t, 2)
	for id := 1; id <= 3; id++ {
		b.spawn(0, 2, id)
	}
	b.ok(api.Ev{Kind: api.EvFail, N: 3}, 0)
	b.ok(api.Ev{Kind: api.EvOffline, Cpu: 1}, 0)
	b.step(0)
	b.step(0)
	b.ok(api.Ev{Kind: api.EvBalance}, 0)
	b.queue(1, 1, 2, 3)
	b.finish(1, api.ErrFail)
	b.queue(0, 1, 2, 3)
	b.where(3, 0, true)
	b.ok(api.Ev{Kind: api.EvBalance}, 3)
	b.where(3, 1, false)
	b.ok(api.Ev{Kind: api.EvBalance}, 0)
}

func TestKernelsOfManyCores(t *testing.T) {
	one := newBoth(t, 1)
	one.load(0)
	one.no(api.Ev{Kind: api.EvOffline}, api.ErrLast)
	one.no(api.Ev{Kind: api.EvOnline}, api.ErrOnline)
	for range 6 {
		one.run(api.Ev{Kind: api.EvStep})
	}
	one.ok(api.Ev{Kind: api.EvBalance}, 0)
	one.no(api.Ev{Kind: api.EvSpawn, Mask: 2}, api.ErrArg)

	two := newBoth(t, 2)
	two.load(0)
	two.load(1)
	two.leave(0)
	two.come(0)
	two.leave(1)
	two.come(1)

	all := newBoth(t, 64)
	all.spawn(0, math.MaxUint64, 1)
	all.spawn(0, 1<<63, 2)
	all.where(2, 63, false)
	all.ok(api.Ev{Kind: api.EvRequest, Id: 3, Mask: 1 << 63}, 0)
	all.ok(api.Ev{Kind: api.EvRaise, Id: 3}, 0)
	all.leave(63)
	// Behind the last core comes the lowest one.
	all.where(2, 0, true)
	all.step(0, did(api.RecHandle, 0, 3))
	for cpu := 62; cpu > 0; cpu-- {
		all.leave(cpu)
		gone(t, all.k, cpu)
	}
	all.no(api.Ev{Kind: api.EvOffline}, api.ErrLast)
	if all.k.Online() != mask.Of(0) {
		t.Fatal("online", all.k.Online())
	}
	all.come(63)
	all.where(2, 63, false)
}

// Records are the caller's own; kernels share nothing.
func TestRecordsAreTheCallers(t *testing.T) {
	a, _ := kernel.New(2)
	z, _ := kernel.New(2)
	first := a.Do(api.Ev{Kind: api.EvSpawn, Mask: 1})
	first[0] = api.Rec{Kind: 9, Id: 9}
	second := a.Do(api.Ev{Kind: api.EvSpawn, Mask: 1})
	if want := []api.Rec{{Kind: api.RecRet, Id: 2}}; !slices.Equal(second, want) || first[0].Id != 9 {
		t.Fatal("records", first, second)
	}
	ran := a.Do(api.Ev{Kind: api.EvStep})
	_ = append(ran[:0], api.Rec{Kind: 9})
	if next := a.Do(api.Ev{Kind: api.EvStep}); !slices.Equal(next, []api.Rec{did(api.RecRun, 0, 2)}) {
		t.Fatal("records", next)
	}
	same(t, z, newPlain(2))
}
