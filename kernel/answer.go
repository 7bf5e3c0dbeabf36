package kernel

import (
	"davit/api"
	"davit/mask"
	"davit/thread"
	"davit/work"
)

// answer makes what an event is answered, an Id and Why, when it is called.
type answer func() (int, api.Errno)

// record is the record of an answer.
func (a answer) record() api.Rec {
	id, why := a()
	if why != api.OK {
		id = 0
	}
	return api.Rec{Kind: api.RecRet, Id: id, Why: why}
}

// plain is an answer that names no Id.
func plain(do func() api.Errno) answer {
	return func() (int, api.Errno) {
		return 0, do()
	}
}

// refused is an answer that does nothing.
func refused(why api.Errno) answer {
	return plain(func() api.Errno { return why })
}

// onCore is an answer that only a core gives that may do things.
func (k *Kernel) onCore(cpu int, do func(cpu int) (int, api.Errno)) answer {
	return func() (int, api.Errno) {
		if !k.isCore(cpu) {
			return 0, api.ErrRange
		}
		if !k.active.Has(cpu) {
			return 0, api.ErrOffline
		}
		return do(cpu)
	}
}

// onThread is an answer that only a thread gives that there is.
func (k *Kernel) onThread(id int, do func(t thread.Thread) (int, api.Errno)) answer {
	return func() (int, api.Errno) {
		t, why := k.threads.Get(id)
		if why != api.OK {
			return 0, why
		}
		return do(t)
	}
}

// ofThreads is the answer to what threads ask, and hands on what they do not.
func (k *Kernel) ofThreads(e api.Ev) answer {
	want := mask.Mask(e.Mask)
	switch e.Kind {
	case api.EvSpawn:
		return func() (int, api.Errno) { return k.spawn(e.Id, want) }
	case api.EvExit:
		return k.onThread(e.Id, func(t thread.Thread) (int, api.Errno) { return 0, k.exit(e.Id, t) })
	case api.EvYield:
		return k.onThread(e.Id, func(t thread.Thread) (int, api.Errno) { return 0, k.yield(e.Id, t) })
	case api.EvSleep:
		return k.onThread(e.Id, func(t thread.Thread) (int, api.Errno) { return k.sleep(e.Id, t, e.N) })
	case api.EvWake:
		return k.onThread(e.Id, func(t thread.Thread) (int, api.Errno) { return 0, k.rouse(e.Id, t) })
	case api.EvAffin:
		return plain(func() api.Errno { return k.aim(e.Id, want) })
	case api.EvWhere:
		return k.onThread(e.Id, func(t thread.Thread) (int, api.Errno) { return t.Cpu, api.OK })
	case api.EvBalance:
		return k.balance
	}
	return k.ofDevices(e)
}

// ofDevices is the answer to what timers and interrupts are asked, and hands on what they are not.
func (k *Kernel) ofDevices(e api.Ev) answer {
	want := mask.Mask(e.Mask)
	switch e.Kind {
	case api.EvTick:
		return plain(func() api.Errno { return k.tick(e.N) })
	case api.EvArm:
		return k.onCore(e.Cpu, func(cpu int) (int, api.Errno) { return k.arm(cpu, e.N) })
	case api.EvCancel:
		return plain(func() api.Errno { return k.cancel(e.Id) })
	case api.EvRequest:
		return plain(func() api.Errno { return k.request(e.Id, want) })
	case api.EvFree:
		return plain(func() api.Errno { return k.free(e.Id) })
	case api.EvRoute:
		return plain(func() api.Errno { return k.aimIrq(e.Id, want) })
	case api.EvMask:
		return plain(func() api.Errno { return k.irqs.Hush(e.Id) })
	case api.EvUnmask:
		return plain(func() api.Errno { return k.irqs.Unhush(e.Id) })
	case api.EvRaise:
		return plain(func() api.Errno { return k.irqs.Raise(e.Id) })
	}
	return k.ofStores(e)
}

// ofStores is the answer to what works, calls and objects are asked, and hands on what they are not.
func (k *Kernel) ofStores(e api.Ev) answer {
	switch e.Kind {
	case api.EvQueue:
		if e.Cpu == work.Free {
			return func() (int, api.Errno) { return k.works.Queue(work.Free) }
		}
		return k.onCore(e.Cpu, k.works.Queue)
	case api.EvFlush:
		return func() (int, api.Errno) { return k.flush(e.Id) }
	case api.EvCall:
		return k.onCore(e.Cpu, k.calls.Send)
	case api.EvAlloc:
		return k.onCore(e.Cpu, k.objects.Alloc)
	case api.EvGive:
		return k.onCore(e.Cpu, func(cpu int) (int, api.Errno) { return 0, k.objects.Give(cpu, e.Id) })
	}
	return k.ofCores(e)
}

// ofCores is the answer to what is asked of the cores themselves. What no one is asked is refused.
func (k *Kernel) ofCores(e api.Ev) answer {
	switch e.Kind {
	case api.EvStep:
		// A core that there is has no answer, but takes its step: this one there is not.
		return refused(api.ErrRange)
	case api.EvOnline, api.EvOffline:
		return plain(func() api.Errno { return k.begin(e.Kind == api.EvOnline, e.Cpu) })
	case api.EvFail:
		return plain(func() api.Errno { return k.plan(e.N) })
	case api.EvHold:
		return k.onCore(e.Cpu, func(cpu int) (int, api.Errno) { return 0, k.gate.Enter(cpu) })
	case api.EvDrop:
		return plain(func() api.Errno { return k.gate.Leave(e.Cpu) })
	case api.EvLimit:
		return plain(func() api.Errno { return k.setLimit(e.N) })
	case api.EvSpeed:
		return plain(func() api.Errno { return k.setSpeed(int64(e.Id), e.N) })
	}
	return refused(api.ErrArg)
}
