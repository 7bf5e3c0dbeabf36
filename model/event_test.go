package model_test

import (
	"math"
	"testing"

	"davit/api"
	"davit/mask"
	"davit/model"
)

// noMasks are masks that no thing of two cores may have.
var noMasks = []uint64{0, 4, 5, 7, 1 << 63, math.MaxUint64}

// EvTick.
func TestTick(t *testing.T) {
	m := newMachine(t, 1)
	for _, n := range noDelays {
		m.no(api.Ev{Kind: api.EvTick, N: n}, api.ErrArg)
	}
	m.ok(api.Ev{Kind: api.EvTick, N: 5}, 0)
	m.ok(api.Ev{Kind: api.EvTick}, 0)
	m.ok(api.Ev{Kind: api.EvTick, N: api.MaxDelay}, 0)
	m.is(model.State{Now: 5 + api.MaxDelay})
	// As a model may come there, if it is told long enough.
	m.s.Now = api.MaxTick - 3
	m.no(api.Ev{Kind: api.EvTick, N: 4}, api.ErrOver)
	m.no(api.Ev{Kind: api.EvTick, N: api.MaxDelay}, api.ErrOver)
	m.no(api.Ev{Kind: api.EvTick, N: api.MaxDelay + 1}, api.ErrArg)
	m.ok(api.Ev{Kind: api.EvTick, N: 3}, 0)
	m.is(model.State{Now: api.MaxTick})
}

// EvSpawn, EvExit.
func TestSpawnExit(t *testing.T) {
	m := newMachine(t, 2)
	for _, prio := range append(noCores, -1, 8, 9) {
		m.no(api.Ev{Kind: api.EvSpawn, Id: prio, Mask: 1}, api.ErrArg)
	}
	for _, no := range noMasks {
		m.no(api.Ev{Kind: api.EvSpawn, Id: 3, Mask: no}, api.ErrArg)
	}
	m.ok(api.Ev{Kind: api.EvSpawn, Id: 7, Mask: 2, Cpu: -9, N: -9}, 1)
	m.ok(api.Ev{Kind: api.EvSpawn, Id: 0, Mask: 3}, 2)
	m.is(model.State{Threads: []model.Thread{{Id: 1, Prio: 7, Mask: 2}, {Id: 2, Mask: 3}}})
	for id := 3; id <= 32; id++ {
		m.ok(api.Ev{Kind: api.EvSpawn, Id: id % 8, Mask: 1}, id)
	}
	m.no(api.Ev{Kind: api.EvSpawn, Id: 3, Mask: 1}, api.ErrFull)
	m.no(api.Ev{Kind: api.EvSpawn, Id: 8, Mask: 1}, api.ErrArg)
	m.no(api.Ev{Kind: api.EvSpawn, Id: 3, Mask: 4}, api.ErrArg)
	for _, id := range append(noCores, -1, 0, 33) {
		m.no(api.Ev{Kind: api.EvExit, Id: id}, api.ErrNone)
	}
	// One that sleeps takes its timer along, and no other one.
	m.ok(api.Ev{Kind: api.EvArm}, 1)
	m.ok(api.Ev{Kind: api.EvSleep, Id: 20}, 2)
	m.ok(api.Ev{Kind: api.EvSleep, Id: 5}, 3)
	m.ok(api.Ev{Kind: api.EvExit, Id: 20}, 0)
	m.no(api.Ev{Kind: api.EvExit, Id: 20}, api.ErrNone)
	m.ok(api.Ev{Kind: api.EvExit, Id: 9}, 0)
	if len(m.s.Timers) != 2 || m.s.Timers[1] != (model.Timer{Id: 3, Who: 5}) || len(m.s.Threads) != 30 || m.s.Threads[4].Timer != 3 {
		t.Error("Exit", m.s)
	}
	// The lowest free number.
	m.ok(api.Ev{Kind: api.EvSpawn, Mask: 1}, 9)
	m.ok(api.Ev{Kind: api.EvSpawn, Mask: 1}, 20)
	m.no(api.Ev{Kind: api.EvSpawn, Mask: 1}, api.ErrFull)
	m.ok(api.Ev{Kind: api.EvExit, Id: 32}, 0)
	m.ok(api.Ev{Kind: api.EvSpawn, Mask: 1}, 32)
	m.ok(api.Ev{Kind: api.EvExit, Id: 1}, 0)
	m.ok(api.Ev{Kind: api.EvSpawn, Mask: 1}, 1)
	for at, one := range m.s.Threads {
		if one.Id != at+1 {
			t.Fatal("the threads' numbers do not rise", m.s.Threads)
		}
	}
	all := newMachine(t, 64)
	all.ok(api.Ev{Kind: api.EvSpawn, Id: 3, Mask: math.MaxUint64}, 1)
	all.ok(api.Ev{Kind: api.EvSpawn, Id: 3, Mask: 1 << 63}, 2)
}

// EvYield, EvSleep, EvWake, EvAffin, EvWhere, of no thread.
func TestNoThread(t *testing.T) {
	m := newMachine(t, 2)
	for range 3 {
		m.may(api.Ev{Kind: api.EvSpawn, Id: 3, Mask: 3}, ret(len(m.s.Threads)+1, api.OK))
	}
	m.ok(api.Ev{Kind: api.EvExit, Id: 2}, 0)
	for _, kind := range []int{api.EvExit, api.EvYield, api.EvSleep, api.EvWake, api.EvAffin, api.EvWhere} {
		for _, id := range append(noCores, -1, 0, 2, 4, 32) {
			m.no(api.Ev{Kind: kind, Id: id, Mask: 1}, api.ErrNone)
		}
		// Ahead of all other errors.
		m.no(api.Ev{Kind: kind, Id: 2, Mask: 4, N: -1}, api.ErrNone)
	}
}

// EvYield, EvSleep, EvWake.
func TestSleepWake(t *testing.T) {
	m := newMachine(t, 2)
	m.ok(api.Ev{Kind: api.EvSpawn, Id: 3, Mask: 1}, 1)
	m.ok(api.Ev{Kind: api.EvSpawn, Id: 4, Mask: 2}, 2)
	m.ok(api.Ev{Kind: api.EvTick, N: 10}, 0)
	ahead := m.s
	m.ok(api.Ev{Kind: api.EvYield, Id: 1}, 0)
	if !model.Same(m.s, ahead) {
		t.Error("Yield", m.s)
	}
	m.no(api.Ev{Kind: api.EvWake, Id: 1}, api.ErrState)
	for _, n := range noDelays {
		m.no(api.Ev{Kind: api.EvSleep, Id: 1, N: n}, api.ErrArg)
	}
	m.ok(api.Ev{Kind: api.EvSleep, Id: 2, N: 5}, 1)
	m.ok(api.Ev{Kind: api.EvSleep, Id: 1, N: api.MaxDelay}, 2)
	m.is(model.State{Now: 10, Threads: []model.Thread{{Id: 1, Prio: 3, Mask: 1, Timer: 2}, {Id: 2, Prio: 4, Mask: 2, Timer: 1}}, Timers: []model.Timer{{Id: 1, Due: 15, Who: 2}, {Id: 2, Due: 10 + api.MaxDelay, Who: 1}}})
	m.no(api.Ev{Kind: api.EvYield, Id: 1}, api.ErrState)
	m.no(api.Ev{Kind: api.EvSleep, Id: 1, N: 5}, api.ErrState)
	m.no(api.Ev{Kind: api.EvSleep, Id: 1, N: -5}, api.ErrState)
	m.ok(api.Ev{Kind: api.EvWake, Id: 2}, 0)
	m.is(model.State{Now: 10, Threads: []model.Thread{{Id: 1, Prio: 3, Mask: 1, Timer: 2}, {Id: 2, Prio: 4, Mask: 2}}, Timers: []model.Timer{{Id: 2, Due: 10 + api.MaxDelay, Who: 1}}})
	m.no(api.Ev{Kind: api.EvWake, Id: 2}, api.ErrState)
	// 48 timers are there, and the lowest free number is one between.
	for id := range 47 {
		m.ok(api.Ev{Kind: api.EvArm, N: 1}, []int{1, id + 2}[min(id, 1)])
	}
	m.no(api.Ev{Kind: api.EvSleep, Id: 2, N: 1}, api.ErrFull)
	m.no(api.Ev{Kind: api.EvSleep, Id: 2, N: -1}, api.ErrArg)
	m.no(api.Ev{Kind: api.EvSleep, Id: 1, N: 1}, api.ErrState)
	m.ok(api.Ev{Kind: api.EvCancel, Id: 33}, 0)
	m.ok(api.Ev{Kind: api.EvSleep, Id: 2, N: 1}, 33)
	m.s.Now = api.MaxTick - 5
	m.ok(api.Ev{Kind: api.EvWake, Id: 1}, 0)
	m.no(api.Ev{Kind: api.EvSleep, Id: 1, N: 6}, api.ErrOver)
	m.ok(api.Ev{Kind: api.EvSleep, Id: 1, N: 5}, 2)
}

// EvAffin.
func TestAffin(t *testing.T) {
	m := newMachine(t, 2)
	m.ok(api.Ev{Kind: api.EvSpawn, Id: 3, Mask: 1}, 1)
	m.ok(api.Ev{Kind: api.EvSpawn, Id: 3, Mask: 1}, 2)
	m.ok(api.Ev{Kind: api.EvSleep, Id: 2, N: 4}, 1)
	for _, no := range noMasks {
		m.no(api.Ev{Kind: api.EvAffin, Id: 1, Mask: no}, api.ErrArg)
		m.no(api.Ev{Kind: api.EvAffin, Id: 2, Mask: no}, api.ErrArg)
	}
	m.ok(api.Ev{Kind: api.EvAffin, Id: 1, Mask: 3}, 0)
	m.ok(api.Ev{Kind: api.EvAffin, Id: 2, Mask: 2}, 0)
	m.is(model.State{Threads: []model.Thread{{Id: 1, Prio: 3, Mask: 3}, {Id: 2, Prio: 3, Mask: 2, Timer: 1}}, Timers: []model.Timer{{Id: 1, Due: 4, Who: 2}}})
}

// EvWhere: on any core that there is, online or not.
func TestWhere(t *testing.T) {
	for _, cpus := range []int{1, 3, 64} {
		m := newMachine(t, cpus)
		m.ok(api.Ev{Kind: api.EvSpawn, Id: 3, Mask: 1}, 1)
		if cpus > 1 {
			m.gone(1)
		}
		var may []api.Rec
		for cpu := range cpus {
			may = append(may, ret(cpu, api.OK))
		}
		m.only(api.Ev{Kind: api.EvWhere, Id: 1}, may...)
		m.idle(api.Ev{Kind: api.EvWhere, Id: 1}, ret(cpus-1, api.OK))
	}
}

// EvBalance: none, or any thread that does not sleep.
func TestBalance(t *testing.T) {
	m := newMachine(t, 2)
	m.no(api.Ev{Kind: api.EvBalance}, api.OK)
	for id := 1; id <= 4; id++ {
		m.ok(api.Ev{Kind: api.EvSpawn, Id: 3, Mask: 1}, id)
	}
	m.ok(api.Ev{Kind: api.EvSleep, Id: 3, N: 1}, 1)
	m.ok(api.Ev{Kind: api.EvExit, Id: 1}, 0)
	m.only(api.Ev{Kind: api.EvBalance}, ret(0, api.OK), ret(2, api.OK), ret(4, api.OK))
	m.idle(api.Ev{Kind: api.EvBalance}, ret(4, api.OK))
}

// EvArm, EvCancel.
func TestArmCancel(t *testing.T) {
	m := newMachine(t, 3)
	m.gone(1)
	for _, cpu := range append(noCores, -1, 3) {
		m.no(api.Ev{Kind: api.EvArm, Cpu: cpu, N: -1}, api.ErrRange)
	}
	m.no(api.Ev{Kind: api.EvArm, Cpu: 1, N: -1}, api.ErrOffline)
	for _, n := range noDelays {
		m.no(api.Ev{Kind: api.EvArm, N: n}, api.ErrArg)
	}
	m.ok(api.Ev{Kind: api.EvTick, N: 3}, 0)
	m.ok(api.Ev{Kind: api.EvArm, Cpu: 2, Id: 7}, 1)
	m.ok(api.Ev{Kind: api.EvArm, N: api.MaxDelay}, 2)
	m.is(model.State{Online: 5, Now: 3, Timers: []model.Timer{{Id: 1, Due: 3}, {Id: 2, Due: 3 + api.MaxDelay}}})
	for id := 3; id <= 48; id++ {
		m.ok(api.Ev{Kind: api.EvArm, N: 1}, id)
	}
	m.no(api.Ev{Kind: api.EvArm, N: 1}, api.ErrFull)
	m.no(api.Ev{Kind: api.EvArm, N: -1}, api.ErrArg)
	m.no(api.Ev{Kind: api.EvArm, Cpu: 1}, api.ErrOffline)
	m.no(api.Ev{Kind: api.EvArm, Cpu: 3}, api.ErrRange)
	for _, id := range append(noCores, -1, 0, 49) {
		m.no(api.Ev{Kind: api.EvCancel, Id: id}, api.ErrNone)
	}
	for _, id := range []int{30, 1, 48} {
		m.ok(api.Ev{Kind: api.EvCancel, Id: id}, 0)
		m.no(api.Ev{Kind: api.EvCancel, Id: id}, api.ErrNone)
	}
	m.ok(api.Ev{Kind: api.EvSpawn, Mask: 1}, 1)
	m.ok(api.Ev{Kind: api.EvSleep, Id: 1}, 1)
	m.no(api.Ev{Kind: api.EvCancel, Id: 1}, api.ErrState)
	m.ok(api.Ev{Kind: api.EvArm}, 30)
	m.ok(api.Ev{Kind: api.EvArm}, 48)
	m.s.Now = api.MaxTick
	m.no(api.Ev{Kind: api.EvArm, N: 1}, api.ErrOver)
	m.ok(api.Ev{Kind: api.EvCancel, Id: 17}, 0)
	m.ok(api.Ev{Kind: api.EvArm}, 17)
	if m.s.Timers[16] != (model.Timer{Id: 17, Due: api.MaxTick}) {
		t.Error("Arm", m.s.Timers)
	}
}

// EvRequest, EvFree, EvRoute, EvMask, EvUnmask, EvRaise.
func TestIrqs(t *testing.T) {
	m := newMachine(t, 2)
	for kind := api.EvRequest; kind <= api.EvRaise; kind++ {
		for _, id := range append(noCores, -1, 16, 17) {
			m.no(api.Ev{Kind: kind, Id: id}, api.ErrRange)
		}
		if kind != api.EvRequest {
			m.no(api.Ev{Kind: kind, Id: 0}, api.ErrNone)
			m.no(api.Ev{Kind: kind, Id: 15, Mask: 1}, api.ErrNone)
		}
	}
	for _, no := range noMasks {
		m.no(api.Ev{Kind: api.EvRequest, Id: 3, Mask: no}, api.ErrArg)
	}
	m.ok(api.Ev{Kind: api.EvRequest, Id: 15, Mask: 2}, 0)
	m.ok(api.Ev{Kind: api.EvRequest, Id: 0, Mask: 3}, 0)
	m.ok(api.Ev{Kind: api.EvRequest, Id: 4, Mask: 1}, 0)
	m.is(model.State{Irqs: []model.Irq{{Id: 0, Mask: 3}, {Id: 4, Mask: 1}, {Id: 15, Mask: 2}}})
	for _, no := range append(noMasks, 1) {
		m.no(api.Ev{Kind: api.EvRequest, Id: 0, Mask: no}, api.ErrState)
	}
	for _, no := range noMasks {
		m.no(api.Ev{Kind: api.EvRoute, Id: 0, Mask: no}, api.ErrArg)
	}
	m.no(api.Ev{Kind: api.EvUnmask, Id: 4}, api.ErrState)
	m.ok(api.Ev{Kind: api.EvMask, Id: 4}, 0)
	m.no(api.Ev{Kind: api.EvMask, Id: 4}, api.ErrState)
	m.ok(api.Ev{Kind: api.EvRaise, Id: 4}, 0)
	m.ok(api.Ev{Kind: api.EvRaise, Id: 15}, 0)
	m.ok(api.Ev{Kind: api.EvRaise, Id: 15}, 0)
	m.ok(api.Ev{Kind: api.EvRoute, Id: 4, Mask: 2}, 0)
	m.is(model.State{Irqs: []model.Irq{{Id: 0, Mask: 3}, {Id: 4, Masked: true, Pending: true, Mask: 2}, {Id: 15, Pending: true, Mask: 2}}})
	m.ok(api.Ev{Kind: api.EvUnmask, Id: 4}, 0)
	m.ok(api.Ev{Kind: api.EvFree, Id: 15}, 0)
	m.no(api.Ev{Kind: api.EvFree, Id: 15}, api.ErrNone)
	m.ok(api.Ev{Kind: api.EvRequest, Id: 15, Mask: 1}, 0)
	m.is(model.State{Irqs: []model.Irq{{Id: 0, Mask: 3}, {Id: 4, Pending: true, Mask: 2}, {Id: 15, Mask: 1}}})
}

// EvQueue, EvFlush, EvCall: the lists of works and calls have nothing to do with each other.
func TestQueueFlushCall(t *testing.T) {
	for _, kind := range []int{api.EvQueue, api.EvCall} {
		m := newMachine(t, 3)
		m.gone(1)
		for _, cpu := range append(noCores, 3) {
			m.no(api.Ev{Kind: kind, Cpu: cpu}, api.ErrRange)
		}
		m.no(api.Ev{Kind: kind, Cpu: 1}, api.ErrOffline)
		for id := 1; id <= 32; id++ {
			m.ok(api.Ev{Kind: kind, Cpu: id % 2 * 2}, id)
		}
		m.no(api.Ev{Kind: kind}, api.ErrFull)
		m.no(api.Ev{Kind: kind, Cpu: 1}, api.ErrOffline)
		m.no(api.Ev{Kind: kind, Cpu: 3}, api.ErrRange)
		done := map[int]int{api.EvQueue: api.RecWork, api.EvCall: api.RecCall}[kind]
		for _, id := range []int{7, 32, 1} {
			m.may(api.Ev{Kind: api.EvStep, Cpu: 2}, did(done, 2, id))
		}
		for _, id := range []int{1, 7, 32} {
			m.ok(api.Ev{Kind: kind}, id)
		}
		if len(m.s.Works)+len(m.s.Calls) != 32 || len(m.s.Works)*len(m.s.Calls) != 0 {
			t.Error("there are other things", m.s)
		}
	}
	m := newMachine(t, 3)
	m.no(api.Ev{Kind: api.EvCall, Cpu: -1}, api.ErrRange)
	m.ok(api.Ev{Kind: api.EvQueue, Cpu: -1}, 1)
	for _, id := range append(noCores, -1, 0, 33) {
		m.no(api.Ev{Kind: api.EvFlush, Id: id}, api.ErrArg)
	}
	m.ok(api.Ev{Kind: api.EvCall}, 1)
	m.ok(api.Ev{Kind: api.EvCall}, 2)
	m.ok(api.Ev{Kind: api.EvFlush, Id: 1}, 1)
	for _, id := range []int{2, 3, 32} {
		m.ok(api.Ev{Kind: api.EvFlush, Id: id}, 0)
	}
	m.is(model.State{Works: []int{1}, Calls: []int{1, 2}})
	for id := 2; id <= 32; id++ {
		m.ok(api.Ev{Kind: api.EvQueue, Cpu: -1}, id)
	}
	m.no(api.Ev{Kind: api.EvQueue, Cpu: -1}, api.ErrFull)
	m.ok(api.Ev{Kind: api.EvFlush, Id: 32}, 1)
}

// EvAlloc, EvGive: which object it is, is not told by the state.
func TestAllocGive(t *testing.T) {
	m := newMachine(t, 3)
	m.gone(1)
	for _, kind := range []int{api.EvAlloc, api.EvGive} {
		for _, cpu := range append(noCores, -1, 3) {
			m.no(api.Ev{Kind: kind, Cpu: cpu}, api.ErrRange)
		}
		m.no(api.Ev{Kind: kind, Cpu: 1}, api.ErrOffline)
	}
	var may []api.Rec
	for id := 1; id <= 96; id++ {
		may = append(may, ret(id, api.OK))
	}
	m.only(api.Ev{Kind: api.EvAlloc, Cpu: 2}, may...)
	for _, id := range []int{50, 96, 1, 20} {
		m.may(api.Ev{Kind: api.EvAlloc, Cpu: 2}, ret(id, api.OK))
		m.never(api.Ev{Kind: api.EvAlloc}, ret(id, api.OK))
	}
	m.is(model.State{Online: 5, Objs: []int{1, 20, 50, 96}})
	for _, id := range append(noCores, -1, 0, 2, 95, 97) {
		m.no(api.Ev{Kind: api.EvGive, Id: id}, api.ErrNone)
	}
	m.ok(api.Ev{Kind: api.EvGive, Cpu: 2, Id: 50}, 0)
	m.no(api.Ev{Kind: api.EvGive, Id: 50}, api.ErrNone)
	m.is(model.State{Online: 5, Objs: []int{1, 20, 96}})
	m.may(api.Ev{Kind: api.EvAlloc}, ret(50, api.OK))
}

// EvAlloc: ErrFull may be as soon as others may keep all that is left, and must be when nothing is.
func TestAllocFull(t *testing.T) {
	for _, cpus := range []int{1, 2, 3, 24, 25, 64} {
		m := newMachine(t, cpus)
		if cpus > 1 {
			// A core that has gone counts as any other one.
			m.gone(1)
		}
		var may []api.Rec
		for id := 96; id >= 1; id-- {
			if id <= 4*(cpus-1) {
				m.idle(api.Ev{Kind: api.EvAlloc}, ret(0, api.ErrFull))
			} else {
				m.never(api.Ev{Kind: api.EvAlloc}, ret(0, api.ErrFull))
			}
			m.never(api.Ev{Kind: api.EvAlloc}, ret(id, api.ErrFull))
			if id == 3 {
				for one := 1; one <= 3; one++ {
					may = append(may, ret(one, api.OK))
				}
				if cpus > 1 {
					may = append(may, ret(0, api.ErrFull))
				}
				m.only(api.Ev{Kind: api.EvAlloc}, may...)
			}
			m.may(api.Ev{Kind: api.EvAlloc}, ret(id, api.OK))
		}
		m.no(api.Ev{Kind: api.EvAlloc}, api.ErrFull)
		if len(m.s.Objs) != 96 || m.s.Objs[0] != 1 || m.s.Objs[95] != 96 {
			t.Error("Alloc", m.s.Objs)
		}
	}
}

// EvOnline, EvOffline.
func TestRequests(t *testing.T) {
	m := newMachine(t, 3)
	for _, kind := range []int{api.EvOnline, api.EvOffline} {
		for _, cpu := range append(noCores, -1, 3) {
			m.no(api.Ev{Kind: kind, Cpu: cpu}, api.ErrRange)
		}
	}
	for cpu := range 3 {
		m.no(api.Ev{Kind: api.EvOnline, Cpu: cpu}, api.ErrOnline)
	}
	m.ok(api.Ev{Kind: api.EvOffline, Cpu: 2}, 0)
	m.is(model.State{Busy: true, Cpu: 2})
	for _, kind := range []int{api.EvOnline, api.EvOffline} {
		for cpu := range 3 {
			m.no(api.Ev{Kind: kind, Cpu: cpu}, api.ErrBusy)
		}
		m.no(api.Ev{Kind: kind, Cpu: 3}, api.ErrRange)
	}
	m.may(api.Ev{Kind: api.EvStep}, did(api.RecHot, 2, 0))
	m.is(model.State{Online: 3})
	m.no(api.Ev{Kind: api.EvOffline, Cpu: 2}, api.ErrOffline)
	m.gone(0)
	m.is(model.State{Online: 2})
	m.no(api.Ev{Kind: api.EvOffline, Cpu: 1}, api.ErrLast)
	m.no(api.Ev{Kind: api.EvOffline, Cpu: 0}, api.ErrOffline)
	m.no(api.Ev{Kind: api.EvOnline, Cpu: 1}, api.ErrOnline)
	m.ok(api.Ev{Kind: api.EvOnline, Cpu: 2}, 0)
	m.is(model.State{Online: 2, Busy: true, Up: true, Cpu: 2})
	m.no(api.Ev{Kind: api.EvOffline, Cpu: 1}, api.ErrBusy)
	m.may(api.Ev{Kind: api.EvStep, Cpu: 1}, did(api.RecHot, 2, 0))
	m.is(model.State{Online: 6})
	newMachine(t, 1).no(api.Ev{Kind: api.EvOffline}, api.ErrLast)
}

// EvHold, EvDrop.
func TestReaders(t *testing.T) {
	m := newMachine(t, 3)
	m.gone(1)
	for _, kind := range []int{api.EvHold, api.EvDrop} {
		for _, cpu := range append(noCores, -1, 3) {
			m.no(api.Ev{Kind: kind, Cpu: cpu}, api.ErrRange)
		}
	}
	m.no(api.Ev{Kind: api.EvHold, Cpu: 1}, api.ErrOffline)
	for cpu := range 3 {
		m.no(api.Ev{Kind: api.EvDrop, Cpu: cpu}, api.ErrEmpty)
	}
	m.ok(api.Ev{Kind: api.EvHold, Cpu: 2}, 0)
	m.ok(api.Ev{Kind: api.EvHold, Cpu: 2}, 0)
	m.ok(api.Ev{Kind: api.EvHold, Cpu: 0}, 0)
	m.is(model.State{Online: 5, Readers: []int{1, 0, 2}})
	m.ok(api.Ev{Kind: api.EvOnline, Cpu: 1}, 0)
	m.no(api.Ev{Kind: api.EvHold, Cpu: 0}, api.ErrBusy)
	m.no(api.Ev{Kind: api.EvHold, Cpu: 1}, api.ErrOffline)
	m.no(api.Ev{Kind: api.EvHold, Cpu: 3}, api.ErrRange)
	m.ok(api.Ev{Kind: api.EvDrop, Cpu: 0}, 0)
	m.no(api.Ev{Kind: api.EvDrop, Cpu: 0}, api.ErrEmpty)
	m.is(model.State{Online: 5, Readers: []int{0, 0, 2}, Busy: true, Up: true, Cpu: 1})
	m.may(api.Ev{Kind: api.EvStep}, did(api.RecHot, 1, 0))
	for n := range 998 {
		m.may(api.Ev{Kind: api.EvHold, Cpu: n % 2}, ret(0, api.OK))
	}
	m.is(model.State{Readers: []int{499, 499, 2}})
	for cpu := range 3 {
		m.no(api.Ev{Kind: api.EvHold, Cpu: cpu}, api.ErrFull)
	}
	m.ok(api.Ev{Kind: api.EvDrop, Cpu: 1}, 0)
	m.ok(api.Ev{Kind: api.EvHold, Cpu: 2}, 0)
	m.no(api.Ev{Kind: api.EvHold, Cpu: 2}, api.ErrFull)
	m.ok(api.Ev{Kind: api.EvOffline, Cpu: 0}, 0)
	m.no(api.Ev{Kind: api.EvHold, Cpu: 2}, api.ErrBusy)
}

// EvFail, EvLimit, EvSpeed: they change nothing that a state has.
func TestSettings(t *testing.T) {
	m := newMachine(t, 2)
	for _, n := range append(noDelays, 10, 11) {
		m.no(api.Ev{Kind: api.EvFail, N: n}, api.ErrRange)
	}
	for n := range int64(10) {
		m.no(api.Ev{Kind: api.EvFail, N: n}, api.OK)
	}
	for _, n := range noDelays {
		m.no(api.Ev{Kind: api.EvLimit, N: n}, api.ErrArg)
	}
	for _, n := range []int64{0, 1, 50, api.MaxDelay} {
		m.no(api.Ev{Kind: api.EvLimit, N: n}, api.OK)
	}
	for _, c := range []struct {
		low  int
		high int64
		why  api.Errno
	}{
		{1, 1, api.OK}, {1, 100000, api.OK}, {100000, 100000, api.OK}, {100, 1000, api.OK}, {7, 8, api.OK},
		{0, 5, api.ErrArg}, {-1, 5, api.ErrArg}, {math.MinInt, math.MaxInt64, api.ErrArg}, {1, 100001, api.ErrArg}, {8, 7, api.ErrArg}, {1, 0, api.ErrArg}, {1, -1, api.ErrArg},
		{100001, 100001, api.ErrArg}, {100001, 100000, api.ErrArg}, {math.MaxInt, math.MinInt64, api.ErrArg}, {1 << 32, 1 << 32, api.ErrArg}, {1<<32 + 1, 5, api.ErrArg}, {1, 1<<32 + 5, api.ErrArg}, {0, 0, api.ErrArg},
	} {
		m.no(api.Ev{Kind: api.EvSpeed, Id: c.low, N: c.high}, c.why)
	}
}

// Any other kind of event.
func TestOtherKinds(t *testing.T) {
	m := newMachine(t, 2)
	for _, kind := range []int{math.MinInt, -1 << 32, -30, -2, -1, 0, 31, 32, 64, 1<<32 + 1, 1<<32 + 3, math.MaxInt} {
		for _, cpu := range []int{-1, 0, 1, 2} {
			m.no(api.Ev{Kind: kind, Cpu: cpu, Id: 1, Mask: 1, N: 1}, api.ErrArg)
		}
	}
}

// A core of which a request of going is on its way: it may be ErrOffline, or not.
func TestGoingCore(t *testing.T) {
	m := newMachine(t, 3)
	m.may(api.Ev{Kind: api.EvAlloc}, ret(5, api.OK))
	for _, up := range []bool{false, true} {
		for _, c := range []struct {
			e  api.Ev
			or api.Rec
		}{
			{api.Ev{Kind: api.EvArm, N: 3}, ret(1, api.OK)}, {api.Ev{Kind: api.EvArm, N: -3}, ret(0, api.ErrArg)}, {api.Ev{Kind: api.EvQueue}, ret(1, api.OK)}, {api.Ev{Kind: api.EvCall}, ret(1, api.OK)},
			{api.Ev{Kind: api.EvGive, Id: 5}, ret(0, api.OK)}, {api.Ev{Kind: api.EvGive, Id: 6}, ret(0, api.ErrNone)}, {api.Ev{Kind: api.EvHold}, ret(0, api.ErrBusy)},
		} {
			kind := map[bool]int{false: api.EvOffline, true: api.EvOnline}[up]
			here := m.s
			m.ok(api.Ev{Kind: kind, Cpu: 1}, 0)
			c.e.Cpu = 1
			if up {
				// One that comes is not online as yet.
				m.no(c.e, api.ErrOffline)
			} else {
				m.only(c.e, ret(0, api.ErrOffline), c.or)
				m.idle(c.e, ret(0, api.ErrOffline))
			}
			c.e.Cpu = 2
			m.only(c.e, c.or)
			c.e.Cpu = 3
			m.no(c.e, api.ErrRange)
			m.s = here
		}
		if !up {
			m.gone(1)
		}
	}
	m = newMachine(t, 2)
	m.ok(api.Ev{Kind: api.EvOffline, Cpu: 1}, 0)
	m.idle(api.Ev{Kind: api.EvAlloc, Cpu: 1}, ret(0, api.ErrOffline))
	m.never(api.Ev{Kind: api.EvAlloc, Cpu: 1}, ret(5, api.ErrOffline))
	m.never(api.Ev{Kind: api.EvAlloc}, ret(0, api.ErrOffline))
	m.never(api.Ev{Kind: api.EvQueue, Cpu: -1}, ret(0, api.ErrOffline))
	m.may(api.Ev{Kind: api.EvAlloc, Cpu: 1}, ret(5, api.OK))
	m.may(api.Ev{Kind: api.EvStep}, api.Rec{Kind: api.RecHot, Cpu: 1, Why: api.ErrFail})
	m.never(api.Ev{Kind: api.EvAlloc, Cpu: 1}, ret(0, api.ErrOffline))
}

// EvStep of no core.
func TestStepOfNoCore(t *testing.T) {
	for _, cpus := range []int{1, 2, 64} {
		m := newMachine(t, cpus)
		for _, cpu := range append(noCores, -1, cpus, cpus+1) {
			m.no(api.Ev{Kind: api.EvStep, Cpu: cpu}, api.ErrRange)
		}
	}
}

// A step of a core that there is: no record, online or not.
func TestQuietStep(t *testing.T) {
	m := newMachine(t, 3)
	m.gone(1)
	for cpu := range 3 {
		e := api.Ev{Kind: api.EvStep, Cpu: cpu, Id: 7, Mask: 7, N: 7}
		m.idle(e)
		for _, r := range answers() {
			m.never(e, r)
		}
		for kind := -1; kind <= 9; kind++ {
			for id := -1; id <= 3; id++ {
				for c := -1; c <= 3; c++ {
					m.never(e, did(kind, c, id))
				}
			}
		}
	}
}

// Each record of a step.
func TestStepRecords(t *testing.T) {
	m := newMachine(t, 3)
	m.gone(2)
	for id := 1; id <= 2; id++ {
		m.ok(api.Ev{Kind: api.EvSpawn, Id: 3, Mask: 7}, id)
		m.ok(api.Ev{Kind: api.EvRequest, Id: 2 * id, Mask: 7}, 0)
		m.ok(api.Ev{Kind: api.EvRaise, Id: 2 * id}, 0)
		m.ok(api.Ev{Kind: api.EvQueue}, id)
		m.ok(api.Ev{Kind: api.EvCall}, id)
		m.ok(api.Ev{Kind: api.EvArm}, id)
	}
	m.ok(api.Ev{Kind: api.EvMask, Id: 2}, 0)
	m.ok(api.Ev{Kind: api.EvSleep, Id: 2, N: 6}, 3)
	// On a core that is not online nothing is done, nor is it told of another one's step.
	for _, r := range []api.Rec{did(api.RecRun, 2, 1), did(api.RecFire, 2, 1), did(api.RecHandle, 2, 4), did(api.RecWork, 2, 1), did(api.RecCall, 2, 1)} {
		m.never(api.Ev{Kind: api.EvStep, Cpu: 2}, r)
		m.never(api.Ev{Kind: api.EvStep, Cpu: 1}, r)
		r.Cpu = 1
		m.never(api.Ev{Kind: api.EvStep, Cpu: 2}, r)
		m.never(api.Ev{Kind: api.EvStep, Cpu: 0}, r)
		m.may1(api.Ev{Kind: api.EvStep, Cpu: 1}, r)
	}
	at1 := api.Ev{Kind: api.EvStep, Cpu: 1}
	here := m.s
	m.may(at1, did(api.RecRun, 1, 1))
	m.idle(at1, did(api.RecRun, 1, 1))
	if !model.Same(m.s, here) {
		t.Error("Run", m.s)
	}
	m.never(at1, did(api.RecRun, 1, 2))
	m.never(at1, api.Rec{Kind: api.RecFire, Cpu: 1, Id: 3, N: 2})
	m.ok(api.Ev{Kind: api.EvTick, N: 5}, 0)
	m.never(at1, api.Rec{Kind: api.RecFire, Cpu: 1, Id: 3, N: 2})
	m.ok(api.Ev{Kind: api.EvTick, N: 1}, 0)
	m.never(at1, did(api.RecHandle, 1, 2))
	for _, r := range []api.Rec{{Kind: api.RecFire, Cpu: 1, Id: 3, N: 2}, did(api.RecHandle, 1, 4), did(api.RecWork, 1, 2), did(api.RecCall, 1, 1)} {
		// Nothing is done twice.
		m.may(at1, r)
		m.never(at1, r)
	}
	m.is(model.State{Online: 3, Now: 6, Threads: []model.Thread{{Id: 1, Prio: 3, Mask: 7}, {Id: 2, Prio: 3, Mask: 7}}, Timers: []model.Timer{{Id: 1}, {Id: 2}}, Irqs: []model.Irq{{Id: 2, Masked: true, Pending: true, Mask: 7}, {Id: 4, Mask: 7}}, Works: []int{1}, Calls: []int{2}})
	m.may(at1, did(api.RecFire, 1, 2))
	m.ok(api.Ev{Kind: api.EvUnmask, Id: 2}, 0)
	m.may(at1, did(api.RecHandle, 1, 2))
	m.may(at1, did(api.RecRun, 1, 2))
	m.is(model.State{Online: 3, Now: 6, Threads: []model.Thread{{Id: 1, Prio: 3, Mask: 7}, {Id: 2, Prio: 3, Mask: 7}}, Timers: []model.Timer{{Id: 1}}, Irqs: []model.Irq{{Id: 2, Mask: 7}, {Id: 4, Mask: 7}}, Works: []int{1}, Calls: []int{2}})
}

// Of each record of a step none that is like it may be: one thing of each kind is there.
func TestLikeRecords(t *testing.T) {
	m := newMachine(t, 4)
	for _, e := range []api.Ev{{Kind: api.EvSpawn, Mask: 1}, {Kind: api.EvSpawn, Mask: 1}, {Kind: api.EvSpawn, Mask: 1}, {Kind: api.EvSpawn, Mask: 1}, {Kind: api.EvSpawn, Mask: 1}} {
		m.ok(e, len(m.s.Threads)+1)
	}
	for _, id := range []int{1, 2, 4, 5} {
		m.ok(api.Ev{Kind: api.EvExit, Id: id}, 0)
	}
	m.step(2, did(api.RecRun, 2, 3))
	m.ok(api.Ev{Kind: api.EvSleep, Id: 3}, 1)
	m.step(2, api.Rec{Kind: api.RecFire, Cpu: 2, Id: 1, N: 3})
	m.ok(api.Ev{Kind: api.EvRequest, Id: 7, Mask: 1}, 0)
	m.ok(api.Ev{Kind: api.EvRaise, Id: 7}, 0)
	m.step(2, did(api.RecHandle, 2, 7))
	m.ok(api.Ev{Kind: api.EvArm}, 1)
	m.step(2, did(api.RecFire, 2, 1))
	m.ok(api.Ev{Kind: api.EvQueue}, 1)
	m.step(2, did(api.RecWork, 2, 1))
	m.ok(api.Ev{Kind: api.EvCall}, 1)
	m.step(2, did(api.RecCall, 2, 1))
	m.is(model.State{Threads: []model.Thread{{Id: 3, Mask: 1}}, Irqs: []model.Irq{{Id: 7, Mask: 1}}})
}

// RecHot.
func TestHot(t *testing.T) {
	m := newMachine(t, 4)
	hot := func(cpu int, why api.Errno) api.Rec { return api.Rec{Kind: api.RecHot, Cpu: cpu, Why: why} }
	online := mask.Mask(15)
	for _, c := range []struct {
		up  bool
		cpu int
		why api.Errno
	}{{false, 2, api.ErrFail}, {false, 2, api.OK}, {true, 2, api.ErrFail}, {true, 2, api.OK}, {false, 0, api.OK}, {false, 3, api.OK}, {true, 3, api.OK}, {true, 0, api.ErrFail}} {
		for cpu := range 4 {
			m.never(api.Ev{Kind: api.EvStep}, hot(cpu, api.OK))
			m.never(api.Ev{Kind: api.EvStep}, hot(cpu, api.ErrFail))
		}
		e := api.Ev{Kind: map[bool]int{false: api.EvOffline, true: api.EvOnline}[c.up], Cpu: c.cpu}
		m.ok(e, 0)
		for why := api.Errno(-1); why <= 18; why++ {
			for cpu := -1; cpu <= 4; cpu++ {
				if why == api.OK && cpu == c.cpu || why == api.ErrFail && cpu == c.cpu {
					m.may1(api.Ev{Kind: api.EvStep, Cpu: 1}, hot(cpu, why))
				} else {
					m.never(api.Ev{Kind: api.EvStep, Cpu: 1}, hot(cpu, why))
				}
			}
		}
		m.never(api.Ev{Kind: api.EvStep}, api.Rec{Kind: api.RecHot, Cpu: c.cpu, Id: 1})
		m.never(api.Ev{Kind: api.EvStep}, api.Rec{Kind: api.RecHot, Cpu: c.cpu, N: 1})
		m.never(api.Ev{Kind: api.EvStep, Cpu: 4}, hot(c.cpu, api.OK))
		m.may(api.Ev{Kind: api.EvStep, Cpu: 1}, hot(c.cpu, c.why))
		if c.why == api.OK && c.up {
			online |= 1 << c.cpu
		} else if c.why == api.OK {
			online &^= 1 << c.cpu
		}
		m.is(model.State{Online: online})
	}
}
