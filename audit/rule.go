package audit

import (
	"davit/mask"
	"davit/work"
)

// every tells whether all of a list are as they must be.
func every[T any](list []T, must func(one T) bool) bool {
	for _, one := range list {
		if !must(one) {
			return false
		}
	}
	return true
}

// found is how many of a list have something in common, and the last one of them.
type found[T any] struct {
	many int
	last T
}

// by is a list's things by what some of them may have in common. So each rule goes over a list a few times at most, however long it is.
func by[T any, C comparable](list []T, common func(one T) C) map[C]found[T] {
	all := make(map[C]found[T], len(list))
	for _, one := range list {
		c := common(one)
		all[c] = found[T]{many: all[c].many + 1, last: one}
	}
	return all
}

func (t Thread) number() int {
	return t.Id
}

func (x Place) number() int {
	return x.Id
}

// sleep is that a thread sleeps by a timer.
type sleep struct {
	thread int
	timer  int
}

func (t Thread) sleep() sleep {
	return sleep{thread: t.Id, timer: t.Timer}
}

// coresAreNested: cores that are active are online, those have power, and they are cores that there are; one is active at least.
func (p Picture) coresAreNested() bool {
	return p.Active.Many() > 0 && p.Active.Within(p.Online) && p.Online.Within(p.Power) && p.Power.Within(mask.Upto(p.Cpus))
}

// wakefulAreQueued: each thread that does not sleep is queued once, on its core, and nothing else is.
func (p Picture) wakefulAreQueued() bool {
	queued := by(p.Queued, Place.number)
	threads := by(p.Threads, Thread.number)
	right := every(p.Threads, func(t Thread) bool {
		in := queued[t.Id]
		if t.Timer != 0 {
			return in.many == 0
		}
		return in.many == 1 && in.last.Cpu == t.Cpu
	})
	return right && every(p.Queued, func(x Place) bool { return threads[x.Id].many > 0 })
}

// sleepersHaveTimers: each thread that sleeps has one timer, which wakes it, and no other timer wakes one.
func (p Picture) sleepersHaveTimers() bool {
	timers := by(p.Timers, Place.number)
	sleeps := by(p.Threads, Thread.sleep)
	right := every(p.Threads, func(t Thread) bool {
		its := timers[t.Timer]
		return t.Timer == 0 || its.many == 1 && its.last.Who == t.Id
	})
	return right && every(p.Timers, func(x Place) bool {
		return x.Who <= 0 || sleeps[sleep{thread: x.Who, timer: x.Id}].many > 0
	})
}

// mayBe tells whether a thing is on a core that may do it, or that goes, and is left by it later.
func (p Picture) mayBe(x Place) bool {
	return p.Active.Has(x.Cpu) || p.Busy && !p.Up && p.Cpu == x.Cpu
}

// placesMayBe: all things are at places that may be; only a work may be at none.
func (p Picture) placesMayBe() bool {
	onCores := every([][]Place{p.Queued, p.Timers, p.Irqs, p.Calls, p.Kept}, func(list []Place) bool { return every(list, p.mayBe) })
	return onCores && every(p.Works, func(x Place) bool { return x.Cpu == work.Free || p.mayBe(x) })
}

// powerIsNeeded: no core has power but those that are online, and one that comes.
func (p Picture) powerIsNeeded() bool {
	return p.Power == p.Online || p.Busy && p.Up && p.Power == p.Online.With(p.Cpu)
}

// once tells whether no number is in a list twice.
func once(list []Place) bool {
	return len(by(list, Place.number)) == len(list)
}

// numbersAreOnce: nothing is at two places. Of threads that are queued the second rule says so.
func (p Picture) numbersAreOnce() bool {
	return every([][]Place{p.Timers, p.Irqs, p.Works, p.Calls, p.Kept}, once)
}

// requestCanBe: a request is of a core that there is, which is not yet as it is to be, by another one that is active.
func (p Picture) requestCanBe() bool {
	if !p.Busy {
		return true
	}
	return p.Cpu != p.By && p.Active.Has(p.By) && mask.Upto(p.Cpus).Has(p.Cpu) && p.Online.Has(p.Cpu) != p.Up
}
