package model

import (
	"davit/api"
	"davit/mask"
	"davit/num"
	"davit/work"
)

const (
	maxReaders = 1000   // on all cores
	maxSpeed   = 100000 // of all frequencies
)

// answer does an event, and tells what it must be answered: an Id, and Why. With an error it has changed nothing.
func (m *machine) answer(e api.Ev) (int, api.Errno) {
	if onCore(e) {
		if why := m.coreError(e.Cpu); why != api.OK {
			return 0, why
		}
	}
	switch e.Kind {
	case api.EvStep:
		// A core that there is has no answer: this one there is not.
		return 0, api.ErrRange
	case api.EvTick:
		return 0, m.tick(e.N)
	case api.EvSpawn:
		return m.spawn(e.Id, mask.Mask(e.Mask))
	case api.EvExit, api.EvYield, api.EvSleep, api.EvWake, api.EvAffin, api.EvWhere:
		return m.ofThread(e)
	case api.EvBalance:
		must(m.told.Id == 0 || m.awake(m.told.Id))
		return m.told.Id, api.OK
	case api.EvArm:
		return m.arm(e.N, 0)
	case api.EvCancel:
		return 0, m.cancel(e.Id)
	case api.EvRequest, api.EvFree, api.EvRoute, api.EvMask, api.EvUnmask, api.EvRaise:
		return 0, m.ofIrq(e)
	case api.EvQueue, api.EvFlush, api.EvCall, api.EvAlloc, api.EvGive:
		return m.ofStores(e)
	}
	return 0, m.ofCores(e)
}

// onCore is whether an event is of its core, and so has that one's error.
func onCore(e api.Ev) bool {
	switch e.Kind {
	case api.EvArm, api.EvCall, api.EvAlloc, api.EvGive, api.EvHold:
		return true
	}
	return e.Kind == api.EvQueue && e.Cpu != work.Free
}

// coreError is why a core is asked in vain. One that goes is still online, but may not do things any more: when that begins is its own affair.
func (m *machine) coreError(cpu int) api.Errno {
	goes := m.Busy && !m.Up && m.Cpu == cpu
	switch {
	case !m.isCore(cpu):
		return api.ErrRange
	case !m.Online.Has(cpu), goes && m.told.Why == api.ErrOffline:
		return api.ErrOffline
	}
	return api.OK
}

// tick lets the clock go on.
func (m *machine) tick(delay int64) api.Errno {
	later, why := num.Later(m.Now, delay)
	if why == api.OK {
		m.Now = later
	}
	return why
}

// spawn is the number of a new thread.
func (m *machine) spawn(prio int, want mask.Mask) (int, api.Errno) {
	if prio < 0 || prio >= api.MaxPrio || !m.canBe(want) {
		return 0, api.ErrArg
	}
	return add(m.threads(), func(id int) Thread { return Thread{Id: id, Prio: prio, Mask: want} })
}

// ofThread is the answer to what a thread asks.
func (m *machine) ofThread(e api.Ev) (int, api.Errno) {
	one := find(m.threads(), e.Id)
	if one == nil {
		return 0, api.ErrNone
	}
	switch e.Kind {
	case api.EvExit:
		drop(m.timers(), one.Timer)
		drop(m.threads(), e.Id)
	case api.EvYield:
		if one.Timer != 0 {
			return 0, api.ErrState
		}
	case api.EvSleep:
		return m.sleep(one, e.N)
	case api.EvWake:
		if one.Timer == 0 {
			return 0, api.ErrState
		}
		drop(m.timers(), one.Timer)
		one.Timer = 0
	case api.EvAffin:
		return 0, m.aim(&one.Mask, e.Mask)
	case api.EvWhere:
		must(m.isCore(m.told.Id))
		return m.told.Id, api.OK
	}
	return 0, api.OK
}

// sleep is the timer by which a thread sleeps from now on.
func (m *machine) sleep(one *Thread, delay int64) (int, api.Errno) {
	if one.Timer != 0 {
		return 0, api.ErrState
	}
	id, why := m.arm(delay, one.Id)
	one.Timer = id
	return id, why
}

// aim lets a thing be for the cores of another mask.
func (m *machine) aim(of *mask.Mask, want uint64) api.Errno {
	if !m.canBe(mask.Mask(want)) {
		return api.ErrArg
	}
	*of = mask.Mask(want)
	return api.OK
}

// cancel takes a timer away that wakes no thread.
func (m *machine) cancel(id int) api.Errno {
	one := find(m.timers(), id)
	switch {
	case one == nil:
		return api.ErrNone
	case one.Who != 0:
		return api.ErrState
	}
	drop(m.timers(), id)
	return api.OK
}

// ofIrq is the answer to what is asked of an interrupt.
func (m *machine) ofIrq(e api.Ev) api.Errno {
	if e.Id < 0 || e.Id >= api.MaxIrqs {
		return api.ErrRange
	}
	one := find(m.irqs(), e.Id)
	if e.Kind == api.EvRequest {
		return m.request(one, e)
	}
	if one == nil {
		return api.ErrNone
	}
	switch e.Kind {
	case api.EvFree:
		drop(m.irqs(), e.Id)
	case api.EvRoute:
		return m.aim(&one.Mask, e.Mask)
	case api.EvMask, api.EvUnmask:
		masked := e.Kind == api.EvMask
		if one.Masked == masked {
			return api.ErrState
		}
		one.Masked = masked
	case api.EvRaise:
		one.Pending = true
	}
	return api.OK
}

// request lets an interrupt be wanted, if there is none of its number as yet.
func (m *machine) request(one *Irq, e api.Ev) api.Errno {
	if one != nil {
		return api.ErrState
	}
	wanted := Irq{Id: e.Id}
	if why := m.aim(&wanted.Mask, e.Mask); why != api.OK {
		return why
	}
	put(m.irqs(), wanted)
	return api.OK
}

// ofStores is the answer to what works, calls and objects are asked.
func (m *machine) ofStores(e api.Ev) (int, api.Errno) {
	switch e.Kind {
	case api.EvQueue:
		return add(m.works(), itself)
	case api.EvCall:
		return add(m.calls(), itself)
	case api.EvAlloc:
		return m.alloc()
	case api.EvGive:
		if !drop(m.objs(), e.Id) {
			return 0, api.ErrNone
		}
		return 0, api.OK
	}
	switch {
	case e.Id < 1 || e.Id > api.MaxWorks:
		return 0, api.ErrArg
	case has(m.works(), e.Id):
		return 1, api.OK
	}
	return 0, api.OK
}

// alloc hands out the object that was told. Which one it is, and whether there is one at all while other cores may keep those that are left, is not for a state to tell.
func (m *machine) alloc() (int, api.Errno) {
	left := api.MaxObjs - len(m.Objs)
	if m.told.Why == api.ErrFull && left <= api.StashCap*(m.Cpus-1) {
		return 0, api.ErrFull
	}
	id := m.told.Id
	must(id >= 1 && id <= api.MaxObjs && !has(m.objs(), id))
	put(m.objs(), id)
	return id, api.OK
}

// ofCores is the answer to what is asked of the cores themselves. What no one is asked is refused.
func (m *machine) ofCores(e api.Ev) api.Errno {
	switch e.Kind {
	case api.EvOnline, api.EvOffline:
		return m.begin(e.Kind == api.EvOnline, e.Cpu)
	case api.EvFail:
		if e.N < 0 || e.N >= api.Stages {
			return api.ErrRange
		}
	case api.EvHold:
		return m.hold(e.Cpu)
	case api.EvDrop:
		return m.leave(e.Cpu)
	case api.EvLimit:
		if e.N < 0 || e.N > api.MaxDelay {
			return api.ErrArg
		}
	case api.EvSpeed:
		if e.Id < 1 || e.N > maxSpeed || int64(e.Id) > e.N {
			return api.ErrArg
		}
	default:
		return api.ErrArg
	}
	return api.OK
}

// begin lets there be a request that a core comes (up), or goes.
func (m *machine) begin(up bool, cpu int) api.Errno {
	switch {
	case !m.isCore(cpu):
		return api.ErrRange
	case m.Busy:
		return api.ErrBusy
	case up && m.Online.Has(cpu):
		return api.ErrOnline
	case !up && !m.Online.Has(cpu):
		return api.ErrOffline
	case !up && m.Online.Many() == 1:
		return api.ErrLast
	}
	m.Busy, m.Up, m.Cpu = true, up, cpu
	return api.OK
}

// hold lets a reader come, on a core that is online.
func (m *machine) hold(cpu int) api.Errno {
	if m.Busy {
		return api.ErrBusy
	}
	sum := 0
	for _, many := range m.Readers {
		sum += many
	}
	if sum >= maxReaders {
		return api.ErrFull
	}
	m.Readers[cpu]++
	return api.OK
}

// leave lets a reader go.
func (m *machine) leave(cpu int) api.Errno {
	if !m.isCore(cpu) {
		return api.ErrRange
	}
	if m.Readers[cpu] == 0 {
		return api.ErrEmpty
	}
	m.Readers[cpu]--
	return api.OK
}
