package kernel_test

import (
	"slices"
	"testing"

	"davit/api"
	"davit/core"
	"davit/gate"
	"davit/irq"
	"davit/kernel"
	"davit/mask"
	"davit/thread"
	"davit/work"
)

// plainTimer is a timer of a plain kernel.
type plainTimer struct {
	there bool
	cpu   int
	due   int64
	who   int
}

// plain is a kernel in flat lists, sentence by sentence as the chapter has it. It calls none of the layers: of those it takes the forms of what they tell alone.
type plain struct {
	cpus           int
	online, active uint64
	now, limit     int64
	low, high      int64
	alive          [33]bool
	threads        [33]thread.Thread
	queues         [][]int
	timers         [49]plainTimer
	irqs           [16]irq.Irq
	route          [16]int
	free           []int
	works          [][]int
	worksIn        [33]bool
	calls          [][]int
	callsIn        [33]bool
	kept           [][]int
	out            [97]bool
	counts         []int64
	cores          []core.Core
	feeds          [][][2]int64
	energy, ticks  []int64
	rested         [][8]int64
	gate           int
	readers        []int
	busy, up       bool
	cpu, by        int
	stages         int // that are done
	back, told     bool
	planned        [10]bool
	stop           bool
	must, held     uint64
}

func newPlain(cpus int) *plain {
	all := ^uint64(0) >> (64 - cpus)
	p := &plain{cpus: cpus, online: all, active: all, limit: 1 << 30, low: 100, high: 1000}
	p.queues, p.works, p.calls, p.kept = make([][]int, cpus), make([][]int, cpus), make([][]int, cpus), make([][]int, cpus)
	p.counts, p.energy, p.ticks = make([]int64, cpus), make([]int64, cpus), make([]int64, cpus)
	p.feeds, p.rested, p.readers = make([][][2]int64, cpus), make([][8]int64, cpus), make([]int, cpus)
	for range cpus {
		p.cores = append(p.cores, core.Core{Power: true})
	}
	return p
}

func has(m uint64, cpu int) bool {
	return cpu >= 0 && cpu < 64 && m>>cpu&1 == 1
}

// place goes round from a core on, till there is one that will do.
func (p *plain) place(want uint64, near int) (int, bool) {
	from := want & p.active
	if from == 0 {
		from = p.active
	}
	for !has(from, near) {
		near = (near + 1) % 64
	}
	return near, want&p.active == 0
}

func (p *plain) put(id, near int) {
	cpu, forced := p.place(uint64(p.threads[id].Mask), near)
	p.putOn(id, cpu, forced)
}

func (p *plain) putOn(id, cpu int, forced bool) {
	p.threads[id].Cpu, p.threads[id].Forced = cpu, forced
	at := 0
	for at < len(p.queues[cpu]) && p.threads[p.queues[cpu][at]].Prio >= p.threads[id].Prio {
		at++
	}
	p.queues[cpu] = slices.Insert(p.queues[cpu], at, id)
}

func (p *plain) takeOut(id int) {
	for cpu := range p.queues {
		p.queues[cpu] = slices.DeleteFunc(p.queues[cpu], func(one int) bool { return one == id })
	}
}

// wrong is whether a thing is not where it is to be.
func (p *plain) wrong(want uint64, cpu int, forced bool) bool {
	if !has(p.active, cpu) {
		return true
	}
	if !has(want, cpu) && want&p.active != 0 {
		return true
	}
	return forced == has(want, cpu)
}

func (p *plain) mend(id int) {
	one := p.threads[id]
	if !one.Sleeps && p.wrong(uint64(one.Mask), one.Cpu, one.Forced) {
		p.takeOut(id)
		p.put(id, one.Cpu)
	}
}

func (p *plain) mendIrq(n int) {
	want, cpu := uint64(p.irqs[n].Mask), p.route[n]
	if p.wrong(want, cpu, !has(want, cpu)) {
		p.route[n], _ = p.place(want, cpu)
	}
}

func (p *plain) canBe(m uint64) bool {
	return m != 0 && (p.cpus == 64 || m < 1<<p.cpus)
}

// first is the lowest number from 1 on that is not in, 0 if there is none.
func first(in func(n int) bool, most int) int {
	for n := 1; n <= most; n++ {
		if !in(n) {
			return n
		}
	}
	return 0
}

func (p *plain) later(delay int64) (int64, api.Errno) {
	if delay < 0 || delay > 1<<30 {
		return 0, api.ErrArg
	}
	if p.now+delay > 1<<60 {
		return 0, api.ErrOver
	}
	return p.now + delay, api.OK
}

func (p *plain) arm(cpu int, delay int64, who int) (int, api.Errno) {
	due, why := p.later(delay)
	if why != api.OK {
		return 0, why
	}
	id := first(func(n int) bool { return p.timers[n].there }, 48)
	if id == 0 {
		return 0, api.ErrFull
	}
	p.timers[id] = plainTimer{true, cpu, due, who}
	return id, api.OK
}

// ofCpu is what is told of a core that must be active.
func (p *plain) ofCpu(cpu int) api.Errno {
	if cpu < 0 || cpu >= p.cpus {
		return api.ErrRange
	}
	if !has(p.active, cpu) {
		return api.ErrOffline
	}
	return api.OK
}

func (p *plain) do(e api.Ev) []api.Rec {
	if e.Kind == 1 && e.Cpu >= 0 && e.Cpu < p.cpus {
		return p.step(e.Cpu)
	}
	id, why := p.answer(e)
	if why != api.OK {
		id = 0
	}
	return []api.Rec{{Kind: 1, Id: id, Why: why}}
}

func (p *plain) answer(e api.Ev) (int, api.Errno) {
	switch {
	case e.Kind == 1:
		return 0, api.ErrRange
	case e.Kind == 2:
		return 0, p.tick(e.N)
	case e.Kind == 3:
		return p.spawn(e)
	case e.Kind >= 4 && e.Kind <= 9:
		if e.Id < 1 || e.Id > 32 || !p.alive[e.Id] {
			return 0, api.ErrNone
		}
		return p.ofThread(e, p.threads[e.Id])
	case e.Kind == 30:
		return p.balance(), api.OK
	case e.Kind >= 12 && e.Kind <= 17:
		if e.Id < 0 || e.Id > 15 {
			return 0, api.ErrRange
		}
		return 0, p.ofIrq(e, &p.irqs[e.Id])
	case e.Kind == 10, e.Kind == 18 && e.Cpu != -1, e.Kind >= 20 && e.Kind <= 22, e.Kind == 26:
		if why := p.ofCpu(e.Cpu); why != api.OK {
			return 0, why
		}
	}
	return p.other(e)
}

func (p *plain) spawn(e api.Ev) (int, api.Errno) {
	if e.Id < 0 || e.Id > 7 || !p.canBe(e.Mask) {
		return 0, api.ErrArg
	}
	id := first(func(n int) bool { return p.alive[n] }, 32)
	if id == 0 {
		return 0, api.ErrFull
	}
	p.alive[id], p.threads[id] = true, thread.Thread{Prio: e.Id, Mask: mask.Mask(e.Mask)}
	p.put(id, id%p.cpus)
	return id, api.OK
}

func (p *plain) ofThread(e api.Ev, one thread.Thread) (int, api.Errno) {
	switch e.Kind {
	case 4:
		if one.Sleeps {
			p.timers[one.Timer] = plainTimer{}
		} else {
			p.takeOut(e.Id)
		}
		p.alive[e.Id], p.threads[e.Id] = false, thread.Thread{}
	case 5, 6:
		if one.Sleeps {
			return 0, api.ErrState
		}
		if e.Kind == 5 {
			p.takeOut(e.Id)
			p.putOn(e.Id, one.Cpu, one.Forced)
			return 0, api.OK
		}
		cpu := one.Cpu
		if !has(p.active, cpu) {
			for cpu = 0; !has(p.active, cpu); {
				cpu++
			}
		}
		timer, why := p.arm(cpu, e.N, e.Id)
		if why == api.OK {
			p.takeOut(e.Id)
			p.threads[e.Id].Sleeps, p.threads[e.Id].Timer = true, timer
		}
		return timer, why
	case 7:
		if !one.Sleeps {
			return 0, api.ErrState
		}
		p.timers[one.Timer] = plainTimer{}
		p.threads[e.Id].Sleeps, p.threads[e.Id].Timer = false, 0
		p.put(e.Id, one.Cpu)
	case 8:
		if !p.canBe(e.Mask) {
			return 0, api.ErrArg
		}
		p.threads[e.Id].Mask = mask.Mask(e.Mask)
		p.mend(e.Id)
	case 9:
		return one.Cpu, api.OK
	}
	return 0, api.OK
}

func (p *plain) balance() int {
	most, least := -1, -1
	for cpu := range p.queues {
		if !has(p.active, cpu) {
			continue
		}
		if most < 0 || len(p.queues[cpu]) > len(p.queues[most]) {
			most = cpu
		}
		if least < 0 || len(p.queues[cpu]) < len(p.queues[least]) {
			least = cpu
		}
	}
	if len(p.queues[most]) < len(p.queues[least])+2 {
		return 0
	}
	found := 0
	for _, id := range p.queues[most] {
		if has(uint64(p.threads[id].Mask), least) {
			found = id
		}
	}
	if found != 0 {
		p.takeOut(found)
		p.putOn(found, least, false)
	}
	return found
}

func (p *plain) ofIrq(e api.Ev, one *irq.Irq) api.Errno {
	if e.Kind == 12 {
		if one.Wanted {
			return api.ErrState
		}
		if !p.canBe(e.Mask) {
			return api.ErrArg
		}
		*one = irq.Irq{Wanted: true, Mask: mask.Mask(e.Mask)}
		p.route[e.Id], _ = p.place(e.Mask, e.Id%p.cpus)
		return api.OK
	}
	if !one.Wanted {
		return api.ErrNone
	}
	switch e.Kind {
	case 13:
		*one = irq.Irq{}
	case 14:
		if !p.canBe(e.Mask) {
			return api.ErrArg
		}
		one.Mask = mask.Mask(e.Mask)
		p.mendIrq(e.Id)
	case 15, 16:
		if one.Masked == (e.Kind == 15) {
			return api.ErrState
		}
		one.Masked = e.Kind == 15
	case 17:
		one.Pending = true
	}
	return api.OK
}

// other is all that is asked neither of a thread nor of an interrupt.
func (p *plain) other(e api.Ev) (int, api.Errno) {
	switch e.Kind {
	case 10:
		return p.arm(e.Cpu, e.N, 0)
	case 11:
		if e.Id < 1 || e.Id > 48 || !p.timers[e.Id].there {
			return 0, api.ErrNone
		}
		if p.timers[e.Id].who != 0 {
			return 0, api.ErrState
		}
		p.timers[e.Id] = plainTimer{}
	case 18, 20:
		in, list := &p.worksIn, &p.free
		if e.Kind == 20 {
			in, list = &p.callsIn, &p.calls[e.Cpu]
		} else if e.Cpu != -1 {
			list = &p.works[e.Cpu]
		}
		id := first(func(n int) bool { return in[n] }, 32)
		if id == 0 {
			return 0, api.ErrFull
		}
		in[id] = true
		*list = append(*list, id)
		return id, api.OK
	case 19:
		if e.Id < 1 || e.Id > 32 {
			return 0, api.ErrArg
		}
		if p.worksIn[e.Id] {
			return 1, api.OK
		}
	case 21:
		return p.alloc(e.Cpu)
	case 22:
		return 0, p.give(e.Cpu, e.Id)
	default:
		return 0, p.ofCores(e)
	}
	return 0, api.OK
}

func (p *plain) ofCores(e api.Ev) api.Errno {
	switch e.Kind {
	case 23, 24:
		return p.begin(e.Kind == 23, e.Cpu)
	case 25:
		if e.N < 0 || e.N > 9 {
			return api.ErrRange
		}
		p.planned[e.N] = true
	case 26:
		if p.gate != gate.Open {
			return api.ErrBusy
		}
		if p.inside() >= 1000 {
			return api.ErrFull
		}
		p.readers[e.Cpu]++
	case 27:
		if e.Cpu < 0 || e.Cpu >= p.cpus {
			return api.ErrRange
		}
		if p.readers[e.Cpu] == 0 {
			return api.ErrEmpty
		}
		p.readers[e.Cpu]--
	case 28:
		if e.N < 0 || e.N > 1<<30 {
			return api.ErrArg
		}
		p.limit = e.N
	case 29:
		if e.Id < 1 || int64(e.Id) > e.N || e.N > 100000 {
			return api.ErrArg
		}
		p.low, p.high = int64(e.Id), e.N
	default:
		return api.ErrArg
	}
	return api.OK
}

func (p *plain) inside() int {
	sum := 0
	for _, n := range p.readers {
		sum += n
	}
	return sum
}

func (p *plain) begin(up bool, cpu int) api.Errno {
	if cpu < 0 || cpu >= p.cpus {
		return api.ErrRange
	}
	if p.busy {
		return api.ErrBusy
	}
	if up && has(p.online, cpu) {
		return api.ErrOnline
	}
	if !up && !has(p.online, cpu) {
		return api.ErrOffline
	}
	if !up && p.online == 1<<cpu {
		return api.ErrLast
	}
	p.busy, p.up, p.cpu, p.stages, p.back, p.told = true, up, cpu, 0, false, false
	for p.by = 0; p.by == cpu || !has(p.active, p.by); {
		p.by++
	}
	p.gate = gate.Wanted
	return api.OK
}

// pooled is whether an object is neither kept nor handed out.
func (p *plain) pooled(id int) bool {
	for _, list := range p.kept {
		if slices.Contains(list, id) {
			return false
		}
	}
	return !p.out[id]
}

// fetch is the object that the pool gives next, 0 if it has none.
func (p *plain) fetch() int {
	begun, empty := 0, 0
	for page := 11; page >= 0; page-- {
		lowest, free := 0, 0
		for id := page*8 + 8; id > page*8; id-- {
			if p.pooled(id) {
				lowest, free = id, free+1
			}
		}
		if free == 8 {
			empty = lowest
		} else if free > 0 {
			begun = lowest
		}
	}
	if begun != 0 {
		return begun
	}
	return empty
}

func (p *plain) alloc(cpu int) (int, api.Errno) {
	if len(p.kept[cpu]) == 0 {
		for range 2 {
			if id := p.fetch(); id != 0 {
				p.kept[cpu] = append(p.kept[cpu], id)
			}
		}
	}
	last := len(p.kept[cpu]) - 1
	if last < 0 {
		return 0, api.ErrFull
	}
	id := p.kept[cpu][last]
	p.kept[cpu], p.out[id] = p.kept[cpu][:last], true
	return id, api.OK
}

func (p *plain) give(cpu, id int) api.Errno {
	if id < 1 || id > 96 || !p.out[id] {
		return api.ErrNone
	}
	if len(p.kept[cpu]) == 4 {
		p.kept[cpu] = p.kept[cpu][2:]
	}
	p.kept[cpu], p.out[id] = append(p.kept[cpu], id), false
	return api.OK
}

// share is how many hundredths of a core's last four feeds were busy, and its frequency by that.
func (p *plain) share(cpu int) (int, int64) {
	list := p.feeds[cpu]
	var busy, all int64
	for _, one := range list[max(0, len(list)-4):] {
		busy, all = busy+one[0], all+one[1]
	}
	if all == 0 {
		return 0, p.low
	}
	return int(busy * 100 / all), p.low + (p.high-p.low)*(busy*100/all)/100
}

func (p *plain) tick(delay int64) api.Errno {
	later, why := p.later(delay)
	if why != api.OK {
		return why
	}
	for cpu := range p.cores {
		c := &p.cores[cpu]
		if !c.Power {
			continue
		}
		p.feeds[cpu] = append(p.feeds[cpu], [2]int64{c.Busy, c.Steps})
		c.Busy, c.Steps = 0, 0
		_, power := p.share(cpu)
		if c.Idle {
			power = []int64{100, 60, 25, 5}[c.Way]
		}
		if p.energy[cpu]+delay*power > 1<<62 {
			continue
		}
		p.energy[cpu] += delay * power
		p.ticks[cpu] += delay
		if c.Idle {
			p.rested[cpu][c.Way] += delay
		}
	}
	p.now = later
	return api.OK
}

// on is the timers of a core, in order.
func (p *plain) on(cpu int) []int {
	var list []int
	for id, one := range p.timers {
		if one.there && one.cpu == cpu {
			list = append(list, id)
		}
	}
	slices.SortStableFunc(list, func(a, b int) int { return int(min(max(p.timers[a].due-p.timers[b].due, -1), 1)) })
	return list
}

func (p *plain) waiting(cpu int) int {
	for n, one := range p.irqs {
		if one.Wanted && one.Pending && !one.Masked && p.route[n] == cpu {
			return n
		}
	}
	return -1
}

func (p *plain) step(cpu int) []api.Rec {
	c := &p.cores[cpu]
	if !c.Power {
		return nil
	}
	timers := p.on(cpu)
	what := core.Rest
	switch {
	case has(p.must, cpu):
		what = core.Ack
	case p.busy && p.by == cpu:
		what = core.Hot
	case has(p.held, cpu), !has(p.active, cpu):
		what = core.Nothing
	case len(p.calls[cpu]) > 0:
		what = core.Call
	case p.waiting(cpu) >= 0:
		what = core.Irq
	case len(timers) > 0 && p.timers[timers[0]].due <= p.now:
		what = core.Timer
	case len(p.works[cpu])+len(p.free) > 0:
		what = core.Work
	case len(p.queues[cpu]) > 0:
		what = core.Run
	}
	c.Steps++
	if what == core.Nothing || c.Idle && what == core.Rest {
		return nil
	}
	if what == core.Rest {
		c.Idle, c.Way, c.Since = true, p.way(timers), p.now
		return nil
	}
	c.Busy++
	if c.Idle {
		c.Idle, c.Way, c.Since = false, 0, 0
		return nil
	}
	switch what {
	case core.Ack:
		p.must, p.held = p.must&^(1<<cpu), p.held|1<<cpu
		return nil
	case core.Hot:
		return p.act()
	}
	p.counts[cpu]++
	return []api.Rec{p.thing(what, cpu)}
}

// way is the way in which a core with these timers rests.
func (p *plain) way(timers []int) int {
	rest := int64(1 << 30)
	if len(timers) > 0 {
		rest = min(rest, p.timers[timers[0]].due-p.now)
	}
	switch {
	case rest >= 400 && p.limit >= 50:
		return 3
	case rest >= 50 && p.limit >= 10:
		return 2
	case rest >= 10 && p.limit >= 2:
		return 1
	}
	return 0
}

func (p *plain) thing(what, cpu int) api.Rec {
	switch what {
	case core.Call:
		id := p.calls[cpu][0]
		p.calls[cpu], p.callsIn[id] = p.calls[cpu][1:], false
		return api.Rec{Kind: 6, Cpu: cpu, Id: id}
	case core.Irq:
		n := p.waiting(cpu)
		p.irqs[n].Pending = false
		return api.Rec{Kind: 4, Cpu: cpu, Id: n}
	case core.Timer:
		id := p.on(cpu)[0]
		who := p.timers[id].who
		p.timers[id] = plainTimer{}
		if who != 0 {
			p.threads[who].Sleeps, p.threads[who].Timer = false, 0
			p.put(who, p.threads[who].Cpu)
		}
		return api.Rec{Kind: 3, Cpu: cpu, Id: id, N: int64(who)}
	case core.Work:
		list := &p.free
		if len(p.works[cpu]) > 0 {
			list = &p.works[cpu]
		}
		id := (*list)[0]
		*list, p.worksIn[id] = (*list)[1:], false
		return api.Rec{Kind: 5, Cpu: cpu, Id: id}
	}
	id := p.queues[cpu][0]
	p.takeOut(id)
	p.putOn(id, cpu, p.threads[id].Forced)
	return api.Rec{Kind: 2, Cpu: cpu, Id: id}
}

func (p *plain) act() []api.Rec {
	all := 10
	if p.up {
		all = 4
	}
	switch {
	case p.back:
		p.stages--
		p.undo(p.stages)
	case p.planned[p.stages] && !p.told:
		p.planned[p.stages], p.back = false, true
	default:
		p.told = true
		done := false
		if p.up {
			done = p.come(p.stages)
		} else {
			done = p.leave(p.stages)
		}
		if done {
			p.stages, p.told = p.stages+1, false
		}
	}
	if !p.back && p.stages < all || p.back && p.stages > 0 {
		return nil
	}
	rec := api.Rec{Kind: 7, Cpu: p.cpu}
	if p.back {
		rec.Why = api.ErrFail
	}
	p.busy, p.up, p.cpu, p.by, p.gate = false, false, 0, 0, gate.Open
	return []api.Rec{rec}
}

func (p *plain) undo(stage int) {
	if stage != 1 {
		return
	}
	if p.up {
		p.cores[p.cpu] = core.Core{Steps: p.cores[p.cpu].Steps, Busy: p.cores[p.cpu].Busy}
	} else {
		p.active |= 1 << p.cpu
	}
}

func (p *plain) take() bool {
	if p.inside() > 0 {
		return false
	}
	p.gate = gate.Taken
	return true
}

func (p *plain) come(stage int) bool {
	switch stage {
	case 0:
		return p.take()
	case 1:
		p.cores[p.cpu].Power = true
	case 2:
		p.kept[p.cpu] = nil
	case 3:
		p.online |= 1 << p.cpu
		p.active |= 1 << p.cpu
		for id := range p.alive {
			if p.alive[id] {
				p.mend(id)
			}
		}
		for n := range p.irqs {
			if p.irqs[n].Wanted {
				p.mendIrq(n)
			}
		}
	}
	return true
}

func (p *plain) leave(stage int) bool {
	cpu, by := p.cpu, p.by
	switch stage {
	case 0:
		return p.take()
	case 1:
		p.active &^= 1 << cpu
	case 2:
		if len(p.queues[cpu]) == 0 {
			return true
		}
		id := p.queues[cpu][0]
		p.takeOut(id)
		p.put(id, cpu)
		return false
	case 3:
		list := p.on(cpu)
		if len(list) == 0 {
			return true
		}
		p.timers[list[0]].cpu = by
		return false
	case 4:
		if len(p.works[cpu]) == 0 {
			return true
		}
		p.free, p.works[cpu] = append(p.free, p.works[cpu][0]), p.works[cpu][1:]
		return false
	case 5:
		if len(p.calls[cpu]) == 0 {
			return true
		}
		p.calls[by], p.calls[cpu] = append(p.calls[by], p.calls[cpu][0]), p.calls[cpu][1:]
		return false
	case 6:
		return p.reroute()
	case 7:
		p.kept[cpu] = nil
	case 8:
		p.counts[by], p.counts[cpu] = p.counts[by]+p.counts[cpu], 0
	case 9:
		p.online &^= 1 << cpu
		p.cores[cpu] = core.Core{Steps: p.cores[cpu].Steps, Busy: p.cores[cpu].Busy}
	}
	return true
}

func (p *plain) reroute() bool {
	if !p.stop {
		p.stop, p.must = true, (p.active|1<<p.cpu)&^(1<<p.by)
		return false
	}
	if p.must != 0 {
		return false
	}
	for n, one := range p.irqs {
		if one.Wanted && p.route[n] == p.cpu {
			p.route[n], _ = p.place(uint64(one.Mask), p.cpu)
		}
	}
	p.stop, p.held = false, 0
	return true
}

// same holds all that a kernel tells against a plain one.
func same(t *testing.T, k *kernel.Kernel, p *plain) {
	t.Helper()
	if k.Cpus() != p.cpus || uint64(k.Online()) != p.online || uint64(k.Active()) != p.active || k.Now() != p.now {
		t.Fatalf("cores %d, online %x, active %x, tick %d, want %d, %x, %x, %d", k.Cpus(), k.Online(), k.Active(), k.Now(), p.cpus, p.online, p.active, p.now)
	}
	sameThreads(t, k, p)
	sameDevices(t, k, p)
	for cpu := range p.cpus {
		sameCore(t, k, p, cpu)
	}
	sameRequest(t, k, p)
	if !slices.Equal(k.Works().List(work.Free), p.free) {
		t.Fatalf("works of any core %v, want %v", k.Works().List(work.Free), p.free)
	}
	var out []int
	free := 0
	for id := 1; id <= 96; id++ {
		if p.out[id] {
			out = append(out, id)
		} else {
			free++
		}
	}
	for _, list := range p.kept {
		free -= len(list)
	}
	if !slices.Equal(k.Objects().Out(), out) || k.Objects().Free() != free {
		t.Fatalf("objects %v, free %d, want %v, %d", k.Objects().Out(), k.Objects().Free(), out, free)
	}
	if !slices.Equal(k.Counts().List(), p.counts) {
		t.Fatalf("counts %v, want %v", k.Counts().List(), p.counts)
	}
}

func sameThreads(t *testing.T, k *kernel.Kernel, p *plain) {
	t.Helper()
	var list []int
	for id, alive := range p.alive {
		if alive {
			list = append(list, id)
			if one, why := k.Threads().Get(id); why != api.OK || one != p.threads[id] {
				t.Fatalf("thread %d: %+v, want %+v", id, one, p.threads[id])
			}
		}
	}
	if !slices.Equal(k.Threads().List(), list) {
		t.Fatalf("threads %v, want %v", k.Threads().List(), list)
	}
	for id, one := range p.timers {
		cpu, there := k.Timers().Where(id)
		due, _ := k.Timers().When(id)
		if there != one.there || cpu != one.cpu || due != one.due || k.Owner(id) != one.who {
			t.Fatalf("timer %d: %v, core %d, due %d, wakes %d, want %+v", id, there, cpu, due, k.Owner(id), one)
		}
	}
}

func sameDevices(t *testing.T, k *kernel.Kernel, p *plain) {
	t.Helper()
	for n, one := range p.irqs {
		got, _ := k.Irqs().Get(n)
		cpu, there := k.Route().Of(n)
		if got != one || there != one.Wanted || there && cpu != p.route[n] {
			t.Fatalf("interrupt %d: %+v, core %d, %v, want %+v, core %d", n, got, cpu, there, one, p.route[n])
		}
	}
}

func sameCore(t *testing.T, k *kernel.Kernel, p *plain, cpu int) {
	t.Helper()
	lists := [][2][]int{{k.Queues().List(cpu), p.queues[cpu]}, {k.Timers().List(cpu), p.on(cpu)}, {k.Works().List(cpu), p.works[cpu]}, {k.Calls().List(cpu), p.calls[cpu]}, {k.Objects().Kept(cpu), p.kept[cpu]}}
	for at, two := range lists {
		if !slices.Equal(two[0], two[1]) {
			t.Fatalf("core %d, list %d: %v, want %v", cpu, at, two[0], two[1])
		}
	}
	for _, id := range p.queues[cpu] {
		if prio, _ := k.Queues().Prio(id); prio != p.threads[id].Prio {
			t.Fatalf("thread %d is queued at %d, want %d", id, prio, p.threads[id].Prio)
		}
	}
	if c, why := k.Cores().Get(cpu); why != api.OK || c != p.cores[cpu] {
		t.Fatalf("core %d: %+v, want %+v", cpu, c, p.cores[cpu])
	}
	if k.Meter().Energy(cpu) != p.energy[cpu] || k.Meter().Ticks(cpu) != p.ticks[cpu] {
		t.Fatalf("core %d: energy %d, ticks %d, want %d, %d", cpu, k.Meter().Energy(cpu), k.Meter().Ticks(cpu), p.energy[cpu], p.ticks[cpu])
	}
	for way, ticks := range p.rested[cpu] {
		if k.Meter().Rested(cpu, way) != ticks {
			t.Fatalf("core %d rested %d in %d, want %d", cpu, k.Meter().Rested(cpu, way), way, ticks)
		}
	}
	busy, fast := p.share(cpu)
	low, high := k.Gov(cpu).Limits()
	if k.Gov(cpu).Busy() != busy || k.Gov(cpu).Freq() != fast || low != p.low || high != p.high {
		t.Fatalf("core %d: busy %d, frequency %d of %d to %d, want %d, %d of %d to %d", cpu, k.Gov(cpu).Busy(), k.Gov(cpu).Freq(), low, high, busy, fast, p.low, p.high)
	}
	if k.Gate().On(cpu) != p.readers[cpu] {
		t.Fatalf("core %d has %d readers, want %d", cpu, k.Gate().On(cpu), p.readers[cpu])
	}
	if k.Stop().Must(cpu) != has(p.must, cpu) || k.Stop().Held(cpu) != has(p.held, cpu) {
		t.Fatalf("core %d: must %v, held %v", cpu, k.Stop().Must(cpu), k.Stop().Held(cpu))
	}
}

func sameRequest(t *testing.T, k *kernel.Kernel, p *plain) {
	t.Helper()
	d := k.Desk()
	if d.Busy() != p.busy || d.Up() != p.up || d.Cpu() != p.cpu || d.By() != p.by || d.Over() {
		t.Fatalf("request %v, up %v, core %d, by %d, want %v, %v, %d, %d", d.Busy(), d.Up(), d.Cpu(), d.By(), p.busy, p.up, p.cpu, p.by)
	}
	if k.Gate().State() != p.gate || k.Stop().On() != p.stop || uint64(k.Stop().Left()) != p.must {
		t.Fatalf("gate %d, stop %v, left %x, want %d, %v, %x", k.Gate().State(), k.Stop().On(), k.Stop().Left(), p.gate, p.stop, p.must)
	}
}
