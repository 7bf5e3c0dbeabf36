package kernel

import (
	"davit/affin"
	"davit/api"
	"davit/mask"
	"davit/num"
	"davit/thread"
)

// spawn is the number of a new thread, which is put to its place.
func (k *Kernel) spawn(prio int, want mask.Mask) (int, api.Errno) {
	id, why := k.threads.Spawn(prio, want)
	if why != api.OK {
		return 0, why
	}
	return id, k.put(id, id%k.Cpus())
}

// put lets a thread that is in no queue be at its place, near to a core.
func (k *Kernel) put(id, near int) api.Errno {
	t, why := k.threads.Get(id)
	if why != api.OK {
		return why
	}
	cpu, forced := k.place(t.Mask, near)
	return k.putOn(id, t.Prio, cpu, forced)
}

// putOn lets a thread that is in no queue be on a core.
func (k *Kernel) putOn(id, prio, cpu int, forced bool) api.Errno {
	if why := k.threads.Place(id, cpu, forced); why != api.OK {
		return why
	}
	return k.queues.Put(cpu, prio, id)
}

// move takes a thread out of its queue, and puts it to its place, near to a core.
func (k *Kernel) move(id, near int) api.Errno {
	if why := k.queues.Take(id); why != api.OK {
		return why
	}
	return k.put(id, near)
}

// mend moves a thread that is awake, if it is not where it is to be. One that sleeps is put to its place when it wakes.
func (k *Kernel) mend(id int) api.Errno {
	t, why := k.threads.Get(id)
	if why != api.OK {
		return why
	}
	item := affin.Item{Id: id, Mask: t.Mask, Cpu: t.Cpu, Forced: t.Forced}
	if t.Sleeps || !affin.Wrong(k.active, item) {
		return api.OK
	}
	return k.move(id, t.Cpu)
}

// exit ends a thread.
func (k *Kernel) exit(id int, t thread.Thread) api.Errno {
	if t.Sleeps {
		k.timers.Cancel(t.Timer)
	} else {
		k.queues.Take(id)
	}
	return k.threads.Exit(id)
}

// yield lets others of a thread's priority go ahead.
func (k *Kernel) yield(id int, t thread.Thread) api.Errno {
	if t.Sleeps {
		return api.ErrState
	}
	return k.queues.Back(id)
}

// sleep is the timer by which a thread sleeps from now on.
func (k *Kernel) sleep(id int, t thread.Thread, delay int64) (int, api.Errno) {
	if t.Sleeps {
		return 0, api.ErrState
	}
	cpu := t.Cpu
	// A core that goes is left by its timers: no new one may come to it.
	if !k.active.Has(cpu) {
		cpu, _ = k.active.First()
	}
	timer, why := k.arm(cpu, delay)
	if why != api.OK {
		return 0, why
	}
	k.queues.Take(id)
	return timer, k.threads.Sleep(id, timer)
}

// rouse ends a thread's sleep ahead of its timer.
func (k *Kernel) rouse(id int, t thread.Thread) api.Errno {
	if !t.Sleeps {
		return api.ErrState
	}
	k.timers.Cancel(t.Timer)
	return k.awake(id, t)
}

// awake ends the sleep of a thread whose timer is gone.
func (k *Kernel) awake(id int, t thread.Thread) api.Errno {
	if _, why := k.threads.Wake(id); why != api.OK {
		return why
	}
	return k.put(id, t.Cpu)
}

// aim says which cores a thread is for.
func (k *Kernel) aim(id int, want mask.Mask) api.Errno {
	if why := k.threads.Aim(id, want); why != api.OK {
		return why
	}
	return k.mend(id)
}

// balance is the thread that goes from the busiest core to the idlest one; 0, if none does.
func (k *Kernel) balance() (int, api.Errno) {
	from, why := k.queues.Busiest(k.active)
	if why != api.OK {
		return 0, why
	}
	to, why := k.queues.Idlest(k.active)
	if why != api.OK || k.queues.Load(from)-k.queues.Load(to) < 2 {
		return 0, why
	}
	list := k.queues.List(from)
	for at := len(list) - 1; at >= 0; at-- {
		id := list[at]
		if t, _ := k.threads.Get(id); t.Mask.Has(to) {
			k.queues.Take(id)
			return id, k.putOn(id, t.Prio, to, false)
		}
	}
	return 0, api.OK
}

// arm is the number of a new timer on a core, that is due in some ticks.
func (k *Kernel) arm(cpu int, delay int64) (int, api.Errno) {
	due, why := num.Later(k.Now(), delay)
	if why != api.OK {
		return 0, why
	}
	return k.timers.Arm(cpu, due)
}

// cancel takes a timer away that wakes no thread.
func (k *Kernel) cancel(id int) api.Errno {
	if k.Owner(id) != 0 {
		return api.ErrState
	}
	return k.timers.Cancel(id)
}

// request lets an interrupt be wanted, and go to its place.
func (k *Kernel) request(n int, want mask.Mask) api.Errno {
	if why := k.irqs.Request(n, want); why != api.OK {
		return why
	}
	return k.send(n, n%k.Cpus())
}

// send lets an interrupt go to its place, near to a core.
func (k *Kernel) send(n, near int) api.Errno {
	one, why := k.irqs.Get(n)
	if why != api.OK {
		return why
	}
	cpu, _ := k.place(one.Mask, near)
	return k.route.Set(n, cpu)
}

// free lets an interrupt not be wanted any more.
func (k *Kernel) free(n int) api.Errno {
	if why := k.irqs.Free(n); why != api.OK {
		return why
	}
	return k.route.Off(n)
}

// aimIrq says which cores an interrupt is for.
func (k *Kernel) aimIrq(n int, want mask.Mask) api.Errno {
	if why := k.irqs.Aim(n, want); why != api.OK {
		return why
	}
	return k.mendIrq(n)
}

// mendIrq lets an interrupt go to its place, if it does not.
func (k *Kernel) mendIrq(n int) api.Errno {
	one, why := k.irqs.Get(n)
	if why != api.OK {
		return why
	}
	cpu, _ := k.route.Of(n)
	// Nothing is kept of whether it was forced: that is told by where it is.
	item := affin.Item{Id: n, Mask: one.Mask, Cpu: cpu, Forced: !one.Mask.Has(cpu)}
	if !affin.Wrong(k.active, item) {
		return api.OK
	}
	return k.send(n, cpu)
}

// flush is 1, if a work is queued, else 0.
func (k *Kernel) flush(id int) (int, api.Errno) {
	switch {
	case id < 1 || id > api.MaxWorks:
		return 0, api.ErrArg
	case k.works.Has(id):
		return 1, api.OK
	}
	return 0, api.OK
}
