package model_test

import (
	"maps"
	"math"
	"reflect"
	"slices"
	"testing"

	"davit/api"
	"davit/mask"
	"davit/model"
)

// plain is a model the other way round: it has no records to judge, but makes all that may come of an event. Its things stand in maps by their numbers.
type plain struct {
	cpus     int
	online   uint64
	now      int64
	threads  map[int]model.Thread
	timers   map[int]model.Timer
	irqs     map[int]model.Irq
	works    map[int]int
	calls    map[int]int
	objs     map[int]int
	busy, up bool
	cpu      int
	readers  map[int]int
}

// outcome is a record that may come of an event (of Kind 0: none), and what it does.
type outcome struct {
	rec api.Rec
	do  func(p *plain)
}

func newPlain(cpus int) plain {
	return plain{cpus: cpus, online: math.MaxUint64 >> (64 - cpus), threads: map[int]model.Thread{}, timers: map[int]model.Timer{}, irqs: map[int]model.Irq{}, works: map[int]int{}, calls: map[int]int{}, objs: map[int]int{}, readers: map[int]int{}}
}

func (p plain) copied() plain {
	p.threads, p.timers, p.irqs = maps.Clone(p.threads), maps.Clone(p.timers), maps.Clone(p.irqs)
	p.works, p.calls, p.objs, p.readers = maps.Clone(p.works), maps.Clone(p.calls), maps.Clone(p.objs), maps.Clone(p.readers)
	return p
}

// rising is the things of a map by their numbers.
func rising[T any](m map[int]T) []T {
	var list []T
	for _, id := range slices.Sorted(maps.Keys(m)) {
		list = append(list, m[id])
	}
	return list
}

func (p plain) state() model.State {
	s := model.State{Cpus: p.cpus, Online: mask.Mask(p.online), Now: p.now, Busy: p.busy, Up: p.up, Cpu: p.cpu}
	s.Threads, s.Timers, s.Irqs = rising(p.threads), rising(p.timers), rising(p.irqs)
	s.Works, s.Calls, s.Objs = rising(p.works), rising(p.calls), rising(p.objs)
	for cpu := range p.cpus {
		s.Readers = append(s.Readers, p.readers[cpu])
	}
	return s
}

// behind is what is there when an outcome has come.
func (p plain) behind(o outcome) plain {
	p = p.copied()
	o.do(&p)
	return p
}

// so is an answer OK, of that Id.
func so(id int, do func(p *plain)) []outcome {
	return []outcome{{api.Rec{Kind: 1, Id: id}, do}}
}

// not is an error, of which nothing comes.
func not(why api.Errno) []outcome {
	return []outcome{{api.Rec{Kind: 1, Why: why}, nothing}}
}

func nothing(*plain) {}

func (p plain) has(cpu int) bool {
	return cpu >= 0 && cpu < p.cpus && p.online>>cpu&1 == 1
}

// free is the lowest number that is free; 0, if there are so many already.
func free[T any](m map[int]T, most int) int {
	for id := 1; id <= most; id++ {
		if _, in := m[id]; !in {
			return id
		}
	}
	return 0
}

func (p plain) badMask(m uint64) bool {
	return m == 0 || m > math.MaxUint64>>(64-p.cpus)
}

// later is when some ticks are over, and why they can not be.
func (p plain) later(n int64) (int64, api.Errno) {
	if n < 0 || n > 1<<30 {
		return 0, api.ErrArg
	}
	if n > 1<<60-p.now {
		return 0, api.ErrOver
	}
	return p.now + n, api.OK
}

func (p plain) arm(n int64, who int) []outcome {
	due, why := p.later(n)
	if why != api.OK {
		return not(why)
	}
	id := free(p.timers, 48)
	if id == 0 {
		return not(api.ErrFull)
	}
	return so(id, func(p *plain) {
		p.timers[id] = model.Timer{Id: id, Due: due, Who: who}
		if one, in := p.threads[who]; in {
			one.Timer = id
			p.threads[who] = one
		}
	})
}

// all is all that may come of an event.
func (p plain) all(e api.Ev) []outcome {
	switch {
	case e.Kind == 1 && (e.Cpu < 0 || e.Cpu >= p.cpus):
		return not(api.ErrRange)
	case e.Kind == 1:
		return p.steps(e.Cpu)
	case e.Kind == 10 || e.Kind >= 20 && e.Kind <= 22 || e.Kind == 26 || e.Kind == 18 && e.Cpu != -1:
		if e.Cpu < 0 || e.Cpu >= p.cpus {
			return not(api.ErrRange)
		}
		if !p.has(e.Cpu) {
			return not(api.ErrOffline)
		}
		if p.busy && !p.up && p.cpu == e.Cpu {
			return append(not(api.ErrOffline), p.onCore(e)...)
		}
		return p.onCore(e)
	case e.Kind >= 4 && e.Kind <= 9:
		one, in := p.threads[e.Id]
		if !in {
			return not(api.ErrNone)
		}
		return p.ofThread(e, one)
	case e.Kind >= 12 && e.Kind <= 17:
		if e.Id < 0 || e.Id > 15 {
			return not(api.ErrRange)
		}
		one, in := p.irqs[e.Id]
		return p.ofIrq(e, one, in)
	}
	return p.other(e)
}

// steps is all that a core may do in a step.
func (p plain) steps(cpu int) []outcome {
	list := []outcome{{api.Rec{}, nothing}}
	if p.busy {
		list = append(list, outcome{api.Rec{Kind: 7, Cpu: p.cpu, Why: api.ErrFail}, func(q *plain) { q.busy, q.up, q.cpu = false, false, 0 }})
		online := p.online &^ (1 << p.cpu)
		if p.up {
			online = p.online | 1<<p.cpu
		}
		list = append(list, outcome{api.Rec{Kind: 7, Cpu: p.cpu}, func(q *plain) { q.online, q.busy, q.up, q.cpu = online, false, false, 0 }})
	}
	if !p.has(cpu) {
		return list
	}
	did := func(kind, id, n int, do func(p *plain)) {
		list = append(list, outcome{api.Rec{Kind: kind, Cpu: cpu, Id: id, N: int64(n)}, do})
	}
	for _, one := range rising(p.threads) {
		if one.Timer == 0 {
			did(2, one.Id, 0, nothing)
		}
	}
	for _, one := range rising(p.timers) {
		if p.now >= one.Due {
			did(3, one.Id, one.Who, func(p *plain) { p.wake(one.Who, one.Id) })
		}
	}
	for _, one := range rising(p.irqs) {
		if one.Pending && !one.Masked {
			one.Pending = false
			did(4, one.Id, 0, func(p *plain) { p.irqs[one.Id] = one })
		}
	}
	for _, id := range rising(p.works) {
		did(5, id, 0, func(p *plain) { delete(p.works, id) })
	}
	for _, id := range rising(p.calls) {
		did(6, id, 0, func(p *plain) { delete(p.calls, id) })
	}
	return list
}

// wake takes a timer away, and ends the sleep of the thread that it wakes.
func (p *plain) wake(id, timer int) {
	delete(p.timers, timer)
	if one, in := p.threads[id]; in {
		one.Timer = 0
		p.threads[id] = one
	}
}

// onCore is what may come of an event of a core that is online.
func (p plain) onCore(e api.Ev) []outcome {
	switch e.Kind {
	case 10:
		return p.arm(e.N, 0)
	case 18, 20:
		of := func(p *plain) map[int]int { return p.works }
		if e.Kind == 20 {
			of = func(p *plain) map[int]int { return p.calls }
		}
		id := free(of(&p), 32)
		if id == 0 {
			return not(api.ErrFull)
		}
		return so(id, func(p *plain) { of(p)[id] = id })
	case 21:
		var list []outcome
		if 96-len(p.objs) <= 4*(p.cpus-1) {
			list = not(api.ErrFull)
		}
		for id := 1; id <= 96; id++ {
			if _, in := p.objs[id]; !in {
				list = append(list, so(id, func(p *plain) { p.objs[id] = id })...)
			}
		}
		return list
	case 22:
		if _, in := p.objs[e.Id]; !in {
			return not(api.ErrNone)
		}
		return so(0, func(p *plain) { delete(p.objs, e.Id) })
	}
	sum := 0
	for _, many := range p.readers {
		sum += many
	}
	if p.busy {
		return not(api.ErrBusy)
	}
	if sum == 1000 {
		return not(api.ErrFull)
	}
	return so(0, func(p *plain) { p.readers[e.Cpu]++ })
}

// ofThread is what may come of what a thread asks.
func (p plain) ofThread(e api.Ev, one model.Thread) []outcome {
	sleeps := one.Timer != 0
	switch e.Kind {
	case 4:
		return so(0, func(p *plain) {
			delete(p.timers, one.Timer)
			delete(p.threads, e.Id)
		})
	case 5, 6:
		if sleeps {
			return not(api.ErrState)
		}
		if e.Kind == 6 {
			return p.arm(e.N, e.Id)
		}
		return so(0, nothing)
	case 7:
		if !sleeps {
			return not(api.ErrState)
		}
		return so(0, func(p *plain) { p.wake(e.Id, one.Timer) })
	case 8:
		if p.badMask(e.Mask) {
			return not(api.ErrArg)
		}
		one.Mask = mask.Mask(e.Mask)
		return so(0, func(p *plain) { p.threads[e.Id] = one })
	}
	var list []outcome
	for cpu := range p.cpus {
		list = append(list, so(cpu, nothing)...)
	}
	return list
}

// ofIrq is what may come of what is asked of an interrupt.
func (p plain) ofIrq(e api.Ev, one model.Irq, in bool) []outcome {
	bad := p.badMask(e.Mask) && (e.Kind == 12 || e.Kind == 14)
	switch {
	case in && e.Kind == 12:
		return not(api.ErrState)
	case !in && e.Kind != 12:
		return not(api.ErrNone)
	case bad:
		return not(api.ErrArg)
	case e.Kind == 13:
		return so(0, func(p *plain) { delete(p.irqs, e.Id) })
	case e.Kind == 15 && one.Masked, e.Kind == 16 && !one.Masked:
		return not(api.ErrState)
	}
	one.Id = e.Id
	switch e.Kind {
	case 12, 14:
		one.Mask = mask.Mask(e.Mask)
	case 15, 16:
		one.Masked = e.Kind == 15
	case 17:
		one.Pending = true
	}
	return so(0, func(p *plain) { p.irqs[e.Id] = one })
}

// other is what may come of all other events.
func (p plain) other(e api.Ev) []outcome {
	switch e.Kind {
	case 2:
		later, why := p.later(e.N)
		if why != api.OK {
			return not(why)
		}
		return so(0, func(p *plain) { p.now = later })
	case 3:
		if e.Id < 0 || e.Id > 7 || p.badMask(e.Mask) {
			return not(api.ErrArg)
		}
		id := free(p.threads, 32)
		if id == 0 {
			return not(api.ErrFull)
		}
		return so(id, func(p *plain) { p.threads[id] = model.Thread{Id: id, Prio: e.Id, Mask: mask.Mask(e.Mask)} })
	case 11:
		one, in := p.timers[e.Id]
		if !in {
			return not(api.ErrNone)
		}
		if one.Who != 0 {
			return not(api.ErrState)
		}
		return so(0, func(p *plain) { delete(p.timers, e.Id) })
	case 18:
		return p.onCore(e)
	case 19:
		if e.Id < 1 || e.Id > 32 {
			return not(api.ErrArg)
		}
		_, in := p.works[e.Id]
		return so(map[bool]int{true: 1}[in], nothing)
	case 30:
		list := so(0, nothing)
		for _, one := range rising(p.threads) {
			if one.Timer == 0 {
				list = append(list, so(one.Id, nothing)...)
			}
		}
		return list
	}
	return p.ofCores(e)
}

// ofCores is what may come of what is asked of the cores themselves.
func (p plain) ofCores(e api.Ev) []outcome {
	noCore := e.Cpu < 0 || e.Cpu >= p.cpus
	why := api.OK
	do := nothing
	switch e.Kind {
	case 23, 24:
		switch {
		case noCore:
			why = api.ErrRange
		case p.busy:
			why = api.ErrBusy
		case e.Kind == 23 && p.has(e.Cpu):
			why = api.ErrOnline
		case e.Kind == 24 && !p.has(e.Cpu):
			why = api.ErrOffline
		case e.Kind == 24 && p.online == 1<<e.Cpu:
			why = api.ErrLast
		}
		do = func(p *plain) { p.busy, p.up, p.cpu = true, e.Kind == 23, e.Cpu }
	case 25:
		if e.N < 0 || e.N > 9 {
			why = api.ErrRange
		}
	case 27:
		if noCore {
			why = api.ErrRange
		} else if p.readers[e.Cpu] == 0 {
			why = api.ErrEmpty
		}
		do = func(p *plain) { p.readers[e.Cpu]-- }
	case 28:
		if e.N < 0 || e.N > 1<<30 {
			why = api.ErrArg
		}
	case 29:
		if e.Id < 1 || e.N > 100000 || e.N < int64(e.Id) {
			why = api.ErrArg
		}
	default:
		why = api.ErrArg
	}
	if why != api.OK {
		return not(why)
	}
	return so(0, do)
}

// picks makes numbers by a fixed rule.
func picks(state uint64) func(n int) int {
	return func(n int) int {
		state = state*6364136223846793005 + 1442695040888963407
		return int(state>>33) % n
	}
}

// anyEvent is an event of any kind, mostly of things that may be there.
func anyEvent(pick func(n int) int, cpus int) api.Ev {
	e := api.Ev{Kind: 1 + pick(31), Cpu: pick(cpus), Id: []int{pick(4), pick(8), pick(17), pick(36), pick(100) - 1}[pick(5)]}
	if pick(3) == 0 {
		e.Kind = []int{api.EvStep, api.EvSpawn, api.EvSleep, api.EvArm, api.EvQueue, api.EvCall, api.EvAlloc, api.EvAlloc, api.EvRequest, api.EvRaise}[pick(10)]
	}
	e.Mask = uint64(pick(1<<31)) * uint64(pick(1<<31)) >> pick(8) & uint64(mask.Upto(cpus))
	e.N = []int64{int64(pick(4)), int64(pick(12)), int64(pick(100)), int64(e.Id) + int64(pick(300))}[pick(4)]
	switch pick(30) {
	case 0:
		e.Cpu = append(noCores, -1, cpus)[pick(12)]
	case 1:
		e.Id = noCores[pick(10)]
	case 2:
		e.Mask = []uint64{0, 1 << 63, math.MaxUint64}[pick(3)]
	case 3:
		e.N = append(noDelays, api.MaxDelay)[pick(10)]
	case 4:
		e.Cpu = -1
	}
	if e.Kind == api.EvSpawn {
		e.Id = pick(9)
	}
	return e
}

// records is what comes of an event, as Next is handed it.
func (o outcome) records() []api.Rec {
	if o.rec.Kind == 0 {
		return nil
	}
	return []api.Rec{o.rec}
}

// judge says that an outcome may be, and leaves what it must, once.
func judge(t *testing.T, s model.State, p plain, e api.Ev, o outcome) {
	t.Helper()
	next, why := model.Next(s, e, o.records()...)
	if want := p.behind(o).state(); why != api.OK || !model.Same(next, want) {
		t.Fatalf("Next(%+v, %+v, %+v) = %+v, %d, want %+v", s, e, o.rec, next, why, want)
	}
	if o.rec.Kind == api.RecRet && o.rec.Why != api.OK && !model.Same(next, s) {
		t.Fatalf("%+v is answered by %d, and changes %+v to %+v", e, o.rec.Why, s, next)
	}
	if o.rec.Kind >= api.RecFire && o.rec.Kind <= api.RecHot {
		if _, why := model.Next(next, e, o.rec); why != api.ErrState {
			t.Fatalf("%+v is done twice", o.rec)
		}
	}
}

// refuse says that nothing but these outcomes may be: records that are like one of them may not, nor others.
func refuse(t *testing.T, s model.State, e api.Ev, all []outcome, pick func(n int) int) {
	t.Helper()
	may := map[api.Rec]bool{}
	for _, o := range all {
		may[o.rec] = true
	}
	others := changed(all[pick(len(all))].rec)
	for range 15 {
		others = append(others, api.Rec{Kind: pick(9), Cpu: e.Cpu * pick(2), Id: pick(98) - 1, Why: api.Errno(pick(19) * pick(2))}, api.Rec{Kind: 1, Id: pick(34) * pick(2), Why: api.Errno(pick(19) * pick(2))})
	}
	for _, r := range others {
		// A record of the Kind 0 is told as none in may, but is one here.
		if may[r] && r.Kind != 0 {
			continue
		}
		if next, why := model.Next(s, e, r); why != api.ErrState || !reflect.DeepEqual(next, model.State{}) {
			t.Fatalf("Next(%+v, %+v, %+v) = %+v, %d", s, e, r, next, why)
		}
	}
}

// P29.2 to P29.4, at long ways of any events and any of what may come of them, against the plain model.
func TestWalks(t *testing.T) {
	var whys [18]int
	var kinds [8]int
	for n, c := range []struct{ cpus, events int }{{1, 1500}, {2, 3000}, {3, 3000}, {7, 2000}, {25, 1500}, {64, 2500}} {
		pick := picks(uint64(29 + n))
		p := newPlain(c.cpus)
		s, _ := model.New(c.cpus)
		for at := range c.events {
			e := anyEvent(pick, c.cpus)
			// Some things go seldom for a while, so that lists become full.
			if at/300%2 == 0 && (e.Kind == api.EvExit || e.Kind == api.EvCancel || e.Kind == api.EvGive || e.Kind == api.EvWake) {
				continue
			}
			ahead := copied(s)
			all := p.all(e)
			for range min(len(all), 8) {
				judge(t, s, p, e, all[pick(len(all))])
			}
			refuse(t, s, e, all, pick)
			o := all[pick(len(all))]
			judge(t, s, p, e, o)
			if !reflect.DeepEqual(s, ahead) {
				t.Fatalf("%+v: the state that was handed in was %+v, and is %+v", e, ahead, s)
			}
			s, _ = model.Next(s, e, o.records()...)
			p = p.behind(o)
			whys[o.rec.Why]++
			kinds[o.rec.Kind]++
		}
	}
	for _, why := range []api.Errno{api.OK, api.ErrArg, api.ErrRange, api.ErrNone, api.ErrFull, api.ErrState, api.ErrBusy, api.ErrOnline, api.ErrOffline, api.ErrLast, api.ErrFail, api.ErrEmpty} {
		if whys[why] < 5 {
			t.Errorf("of the error %d there were %d", why, whys[why])
		}
	}
	for kind, many := range kinds {
		if many < 5 {
			t.Errorf("of the record %d there were %d", kind, many)
		}
	}
}

// wild is a state that no model tells.
func wild(pick func(n int) int) model.State {
	number := func() int {
		return []int{math.MinInt, -1, 0, 1, 2, 3, 15, 16, 32, 48, 64, 96, 97, math.MaxInt}[pick(14)]
	}
	s := model.State{Cpus: 1 + pick(64), Online: mask.Mask(number()), Now: int64(number()), Busy: pick(2) == 0, Up: pick(2) == 0, Cpu: number()}
	for range pick(40) {
		s.Threads = append(s.Threads, model.Thread{Id: number(), Prio: number(), Mask: mask.Mask(number()), Timer: number()})
		s.Timers = append(s.Timers, model.Timer{Id: number(), Due: int64(number()), Who: number()})
		s.Irqs = append(s.Irqs, model.Irq{Id: number(), Masked: pick(2) == 0, Pending: pick(2) == 0, Mask: mask.Mask(number())})
	}
	for range pick(120) {
		s.Works, s.Calls, s.Objs = append(s.Works, number()), append(s.Calls, number()), append(s.Objs, number())
	}
	for range s.Cpus {
		s.Readers = append(s.Readers, number())
	}
	return s
}

// P29.2: of a state that New and Next do not tell there is an end all the same, and it is not changed.
func TestWildStates(t *testing.T) {
	pick := picks(290)
	for range 20000 {
		s := wild(pick)
		ahead := copied(s)
		e := anyEvent(pick, s.Cpus)
		l := []api.Rec{{Kind: pick(9), Cpu: e.Cpu, Id: pick(98), N: int64(pick(3)), Why: api.Errno(pick(2) * pick(18))}}
		if pick(2) == 0 {
			l[0] = ret(pick(2)*pick(98), l[0].Why)
		}
		next, why := model.Next(s, e, l...)
		if why != api.OK && !reflect.DeepEqual(next, model.State{}) {
			t.Fatalf("Next(%+v, %+v, %+v) = %+v, %d", s, e, l, next, why)
		}
		if !reflect.DeepEqual(s, ahead) {
			t.Fatalf("Next(%+v, %+v, %+v): it is %+v then", ahead, e, l, s)
		}
		model.Same(s, next)
	}
}
