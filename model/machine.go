package model

import (
	"davit/api"
	"davit/mask"
	"davit/num"
)

// machine is a state that an event is done to, and the record that was told of it: what a state does not tell, as on which core a thread is, is taken from there.
type machine struct {
	State
	told api.Rec
}

// must hands up that a step may not be, unless it may.
func must(may bool) {
	if !may {
		panic(api.ErrState)
	}
}

// follow does an event that was answered by these records.
func (m *machine) follow(e api.Ev, l []api.Rec) {
	if e.Kind == api.EvStep && m.isCore(e.Cpu) {
		if len(l) > 0 {
			must(len(l) == 1)
			m.told = l[0]
			m.step(e.Cpu)
		}
		return
	}
	must(len(l) == 1)
	m.told = l[0]
	id, why := m.answer(e)
	must(m.told == api.Rec{Kind: api.RecRet, Id: id, Why: why})
}

// isCore is whether there is such a core.
func (m *machine) isCore(cpu int) bool {
	return cpu >= 0 && cpu < m.Cpus
}

// canBe is whether a thing may be for the cores of a mask.
func (m *machine) canBe(want mask.Mask) bool {
	return want.Many() > 0 && want.Within(mask.Upto(m.Cpus))
}

// step does what a core told that it did in its step.
func (m *machine) step(cpu int) {
	if m.told.Kind == api.RecHot {
		m.end()
		return
	}
	must(m.Online.Has(cpu))
	who := m.thing(m.told.Kind, m.told.Id)
	must(m.told == api.Rec{Kind: m.told.Kind, Cpu: cpu, Id: m.told.Id, N: int64(who)})
}

// end lets there be no request any more, as its record tells.
func (m *machine) end() {
	must(m.Busy)
	must(m.told == api.Rec{Kind: api.RecHot, Cpu: m.Cpu, Why: m.told.Why})
	switch {
	case m.told.Why == api.ErrFail:
	case m.told.Why != api.OK:
		must(false)
	case m.Up:
		m.Online = m.Online.With(m.Cpu)
	default:
		m.Online = m.Online.Less(m.Cpu)
	}
	m.Busy, m.Up, m.Cpu = false, false, 0
}

// thing does a thing that must be there, and be ready; it tells the thread that is woken by it.
func (m *machine) thing(kind, id int) int {
	switch kind {
	case api.RecRun:
		must(m.awake(id))
	case api.RecFire:
		return m.fire(id)
	case api.RecHandle:
		one := find(m.irqs(), id)
		must(one != nil && one.Pending && !one.Masked)
		one.Pending = false
	case api.RecWork:
		must(drop(m.works(), id))
	case api.RecCall:
		must(drop(m.calls(), id))
	default:
		must(false)
	}
	return 0
}

// awake is whether there is such a thread, and it does not sleep.
func (m *machine) awake(id int) bool {
	one := find(m.threads(), id)
	return one != nil && one.Timer == 0
}

// fire takes a timer away that is due; it tells the thread that is woken by it.
func (m *machine) fire(id int) int {
	one := find(m.timers(), id)
	must(one != nil && one.Due <= m.Now)
	who := one.Who
	drop(m.timers(), id)
	if sleeper := find(m.threads(), who); sleeper != nil {
		sleeper.Timer = 0
	}
	return who
}

// arm is the number of a new timer that is due in some ticks, and the thread that it wakes.
func (m *machine) arm(delay int64, who int) (int, api.Errno) {
	due, why := num.Later(m.Now, delay)
	if why != api.OK {
		return 0, why
	}
	return add(m.timers(), func(id int) Timer { return Timer{Id: id, Due: due, Who: who} })
}
