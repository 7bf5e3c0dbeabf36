package kernel

import (
	"davit/api"
	"davit/hot"
)

// begin lets there be a request that a core comes (up), or goes, by the steps of the lowest other core that may do things.
func (k *Kernel) begin(up bool, cpu int) api.Errno {
	switch {
	case !k.isCore(cpu):
		return api.ErrRange
	case k.desk.Busy():
		return api.ErrBusy
	case up && k.online.Has(cpu):
		return api.ErrOnline
	case !up && !k.online.Has(cpu):
		return api.ErrOffline
	case !up && k.online.Many() == 1:
		return api.ErrLast
	}
	by, _ := k.active.Less(cpu).First()
	if why := k.desk.Begin(up, cpu, by); why != api.OK {
		return why
	}
	return k.gate.Want()
}

// plan lets a stage fail, once. A number that is too great for a place is asked first: cut short it could be a stage.
func (k *Kernel) plan(stage int64) api.Errno {
	if stage < 0 || stage >= api.Stages {
		return api.ErrRange
	}
	return k.desk.Plan(int(stage))
}

// act does the next act of the request, and ends it, if that was the last one.
func (k *Kernel) act() []api.Rec {
	next, why := k.desk.Next()
	if why == api.OK && !next.Fails && k.do(next) {
		k.desk.Done()
	}
	if !k.desk.Over() {
		return nil
	}
	cpu := k.desk.Cpu()
	end, _ := k.desk.End()
	k.gate.Free()
	return []api.Rec{{Kind: api.RecHot, Cpu: cpu, Why: end}}
}

// do does, or undoes, a stage of the request; it tells whether that is done with.
func (k *Kernel) do(next hot.Step) bool {
	cpu, by := k.desk.Cpu(), k.desk.By()
	switch {
	case next.Undo && k.desk.Up():
		return k.uncome(next.Stage, cpu)
	case next.Undo:
		return k.ungo(next.Stage, cpu)
	case k.desk.Up():
		return k.come(next.Stage, cpu)
	}
	return k.leave(next.Stage, cpu, by)
}

// leave does a stage of a core's going, by another one; it tells whether the stage is done. Some have many acts, of which each step does one.
func (k *Kernel) leave(stage, cpu, by int) bool {
	switch stage {
	case 0:
		return k.gate.Take() == api.OK
	case 1:
		k.active = k.active.Less(cpu)
	case 2:
		return k.shift(cpu)
	case 3:
		_, why := k.timers.Move(cpu, by)
		return why != api.OK
	case 4:
		_, why := k.works.Unbind(cpu)
		return why != api.OK
	case 5:
		_, why := k.calls.Move(cpu, by)
		return why != api.OK
	case 6:
		return k.reroute(cpu, by)
	case 7:
		k.objects.Drain(cpu)
	case 8:
		k.counts.Fold(cpu, by)
	case 9:
		k.online = k.online.Less(cpu)
		k.cores.Power(cpu, false)
	}
	return true
}

// shift puts the first thread of a core's queue to its place; it tells whether there was none.
func (k *Kernel) shift(cpu int) bool {
	list := k.queues.List(cpu)
	if len(list) == 0 {
		return true
	}
	k.move(list[0], cpu)
	return false
}

// reroute lets a core's interrupts go to their places, while all cores but one stand still; it tells whether it has.
func (k *Kernel) reroute(cpu, by int) bool {
	if !k.stop.On() {
		k.stop.Begin(k.active.With(cpu).Less(by))
		return false
	}
	if !k.stop.Ready() {
		return false
	}
	for _, n := range k.route.On(cpu) {
		k.send(n, cpu)
	}
	k.stop.Free()
	return true
}

// ungo undoes a stage of a core's going. What has left the core stays where it is: it is no worse there.
func (k *Kernel) ungo(stage, cpu int) bool {
	if stage == 1 {
		k.active = k.active.With(cpu)
	}
	return true
}

// come does a stage of a core's coming; it tells whether the stage is done.
func (k *Kernel) come(stage, cpu int) bool {
	switch stage {
	case 0:
		return k.gate.Take() == api.OK
	case 1:
		k.cores.Power(cpu, true)
	case 2:
		k.objects.Drain(cpu)
	case 3:
		k.online, k.active = k.online.With(cpu), k.active.With(cpu)
		k.home()
	}
	return true
}

// home lets all that is not where it is to be go there.
func (k *Kernel) home() {
	for _, id := range k.threads.List() {
		k.mend(id)
	}
	for _, n := range k.irqs.List() {
		k.mendIrq(n)
	}
}

// uncome undoes a stage of a core's coming.
func (k *Kernel) uncome(stage, cpu int) bool {
	if stage == 1 {
		k.cores.Power(cpu, false)
	}
	return true
}
