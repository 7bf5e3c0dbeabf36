package kernel

import (
	"davit/api"
	"davit/core"
	"davit/freq"
	"davit/idle"
	"davit/num"
	"davit/work"
)

// step lets a core do one thing.
func (k *Kernel) step(cpu int) []api.Rec {
	c, _ := k.cores.Get(cpu)
	what := core.Next(c, k.flags(cpu))
	if c.Power {
		k.cores.Count(cpu, what != core.Nothing && what != core.Rest)
	}
	switch what {
	case core.Nothing:
	case core.Wake:
		k.cores.Wake(cpu, k.Now())
	case core.Ack:
		k.stop.Ack(cpu)
	case core.Rest:
		k.rest(cpu)
	case core.Hot:
		return k.act()
	default:
		return []api.Rec{k.thing(what, cpu)}
	}
	return nil
}

// flags is what waits for a core.
func (k *Kernel) flags(cpu int) core.Flags {
	_, ready := k.ready(cpu)
	return core.Flags{
		Stop:   k.stop.Must(cpu),
		Held:   k.stop.Held(cpu),
		Hot:    k.desk.Busy() && k.desk.By() == cpu,
		Active: k.active.Has(cpu),
		Call:   k.calls.Load(cpu) > 0,
		Irq:    ready,
		Timer:  k.timers.Ready(cpu),
		Work:   k.works.Load(cpu) > 0 || k.works.Load(work.Free) > 0,
		Thread: k.queues.Load(cpu) > 0,
	}
}

// ready is the lowest interrupt that waits for a core, and whether there is one.
func (k *Kernel) ready(cpu int) (int, bool) {
	for _, n := range k.route.On(cpu) {
		if k.irqs.Ready(n) {
			return n, true
		}
	}
	return 0, false
}

// thing does what waits for a core, and counts it. None of the parts refuses: each has what its flag told.
func (k *Kernel) thing(what, cpu int) api.Rec {
	k.counts.Add(cpu, 1)
	rec := api.Rec{Cpu: cpu}
	switch what {
	case core.Call:
		rec.Kind = api.RecCall
		rec.Id, _ = k.calls.Take(cpu)
	case core.Irq:
		rec.Kind = api.RecHandle
		rec.Id, _ = k.ready(cpu)
		k.irqs.Clear(rec.Id)
	case core.Timer:
		rec.Kind = api.RecFire
		rec.Id, rec.N = k.fire(cpu)
	case core.Work:
		rec.Kind = api.RecWork
		rec.Id, _ = k.works.Take(cpu)
	case core.Run:
		rec.Kind = api.RecRun
		rec.Id, _ = k.queues.Pick(cpu)
	}
	return rec
}

// fire is the first timer of a core that is due, and the thread that it has woken, if any.
func (k *Kernel) fire(cpu int) (int, int64) {
	timer, _ := k.timers.Fire(cpu)
	who := k.Owner(timer)
	if t, why := k.threads.Get(who); why == api.OK {
		k.awake(who, t)
	}
	return timer, int64(who)
}

// rest lets a core rest in the deepest way that pays till its first timer is due.
func (k *Kernel) rest(cpu int) {
	due, why := k.timers.Next(cpu)
	ticks := idle.Predict(k.Now(), due, why == api.OK)
	k.cores.Rest(cpu, idle.Choose(idle.Table(), ticks, k.limit), k.Now())
}

// tick lets the clock go on.
func (k *Kernel) tick(delay int64) api.Errno {
	later, why := num.Later(k.Now(), delay)
	if why != api.OK {
		return why
	}
	for cpu, gov := range k.govs {
		k.charge(cpu, gov, delay)
	}
	return k.timers.Go(later)
}

// charge tells a core's governor of its steps, and the meter of its ticks. What the meter refuses is not told: a clock does not stand still for it.
func (k *Kernel) charge(cpu int, gov *freq.Gov, ticks int64) {
	c, _ := k.cores.Get(cpu)
	if !c.Power {
		return
	}
	busy, steps, _ := k.cores.Take(cpu)
	gov.Feed(busy, steps)
	if c.Idle {
		k.meter.Rest(cpu, c.Way, ticks, idle.Cost(idle.Table(), c.Way, 1))
		return
	}
	k.meter.Work(cpu, ticks, gov.Freq())
}

// setLimit says within how many ticks a core that rests must be able to wake.
func (k *Kernel) setLimit(limit int64) api.Errno {
	if limit < 0 || limit > api.MaxDelay {
		return api.ErrArg
	}
	k.limit = limit
	return api.OK
}

// setSpeed says within which frequencies all cores are. The first governor refuses what any one would: so nothing is changed then.
func (k *Kernel) setSpeed(low, high int64) api.Errno {
	for _, gov := range k.govs {
		if why := gov.Set(low, high); why != api.OK {
			return why
		}
	}
	return api.OK
}
