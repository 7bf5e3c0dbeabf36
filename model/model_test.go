package model_test

import (
	"math"
	"reflect"
	"slices"
	"testing"

	"davit/api"
	"davit/mask"
	"davit/model"
)

// noCores are numbers that are no cores at all.
var noCores = []int{math.MinInt, -1 << 32, -64, -2, 64, 65, 1 << 32, 1<<32 - 1, 1<<32 + 1, math.MaxInt}

// noDelays are numbers that no clock goes on by.
var noDelays = []int64{math.MinInt64, -1 << 60, -1 << 32, -1, api.MaxDelay + 1, 1 << 31, 1 << 32, api.MaxTick, math.MaxInt64}

// copied is a state in memory of its own.
func copied(s model.State) model.State {
	s.Threads, s.Timers, s.Irqs = slices.Clone(s.Threads), slices.Clone(s.Timers), slices.Clone(s.Irqs)
	s.Works, s.Calls, s.Objs, s.Readers = slices.Clone(s.Works), slices.Clone(s.Calls), slices.Clone(s.Objs), slices.Clone(s.Readers)
	return s
}

// machine is a model that goes on event by event.
type machine struct {
	*testing.T
	s model.State
}

func newMachine(t *testing.T, cpus int) *machine {
	t.Helper()
	s, why := model.New(cpus)
	if why != api.OK {
		t.Fatalf("New(%d): %d", cpus, why)
	}
	return &machine{t, s}
}

// may goes on by an event that may be answered so.
func (m *machine) may(e api.Ev, l ...api.Rec) {
	m.Helper()
	ahead := copied(m.s)
	next, why := model.Next(m.s, e, l...)
	if why != api.OK {
		m.Fatalf("Next(%+v, %+v, %+v): %d", m.s, e, l, why)
	}
	if !reflect.DeepEqual(m.s, ahead) {
		m.Fatalf("Next(%+v, %+v, %+v): it is %+v then", ahead, e, l, m.s)
	}
	m.s = next
}

// never is an event that may not be answered so.
func (m *machine) never(e api.Ev, l ...api.Rec) {
	m.Helper()
	ahead := copied(m.s)
	next, why := model.Next(m.s, e, l...)
	if why != api.ErrState || !reflect.DeepEqual(next, model.State{}) {
		m.Fatalf("Next(%+v, %+v, %+v) = %+v, %d", ahead, e, l, next, why)
	}
	if !reflect.DeepEqual(m.s, ahead) {
		m.Fatalf("Next(%+v, %+v, %+v): it is %+v then", ahead, e, l, m.s)
	}
}

// ret is an answer.
func ret(id int, why api.Errno) api.Rec {
	return api.Rec{Kind: api.RecRet, Id: id, Why: why}
}

// did is the record of a thing that a core did.
func did(kind, cpu, id int) api.Rec {
	return api.Rec{Kind: kind, Cpu: cpu, Id: id}
}

// changed is all records that differ from one in a field.
func changed(r api.Rec) []api.Rec {
	var list []api.Rec
	for by := -1; by <= 1; by += 2 {
		a, b, c, d, e := r, r, r, r, r
		a.Kind, b.Cpu, c.Id, d.N, e.Why = r.Kind+by, r.Cpu+by, r.Id+by, r.N+int64(by), r.Why+api.Errno(by)
		list = append(list, a, b, c, d, e)
	}
	return list
}

// answers is all answers with numbers and errors at the edges of what there is.
func answers() []api.Rec {
	var list []api.Rec
	for _, id := range []int{math.MinInt, -1, 0, 1, 2, 3, 4, 5, 6, 15, 16, 31, 32, 33, 47, 48, 49, 63, 64, 95, 96, 97, 1 << 32, 1<<32 + 1, math.MaxInt} {
		for why := api.Errno(-1); why <= 18; why++ {
			list = append(list, ret(id, why))
		}
	}
	return list
}

// only says that of all answers just these may be.
func (m *machine) only(e api.Ev, may ...api.Rec) {
	m.Helper()
	others := answers()
	for _, r := range may {
		others = append(others, changed(r)...)
		m.may1(e, r)
		m.never(e, r, r)
	}
	for _, r := range others {
		if !slices.Contains(may, r) {
			m.never(e, r)
		}
	}
	m.never(e)
}

// may1 tries an event, and stays where it is.
func (m *machine) may1(e api.Ev, l ...api.Rec) {
	m.Helper()
	here := m.s
	m.may(e, l...)
	m.s = here
}

// ok goes on by an event that may be answered by this Id alone.
func (m *machine) ok(e api.Ev, id int) {
	m.Helper()
	m.only(e, ret(id, api.OK))
	m.may(e, ret(id, api.OK))
}

// no says that an event may be answered by this error alone, and changes nothing.
func (m *machine) no(e api.Ev, why api.Errno) {
	m.Helper()
	m.only(e, ret(0, why))
	m.idle(e, ret(0, why))
}

// idle says that an event may be answered so, and changes nothing.
func (m *machine) idle(e api.Ev, l ...api.Rec) {
	m.Helper()
	here := m.s
	m.may(e, l...)
	if !model.Same(m.s, here) {
		m.Fatalf("%+v, %+v: %+v, and %+v", e, l, here, m.s)
	}
}

// is says what the state is; what is not named is what it was when it was new.
func (m *machine) is(want model.State) {
	m.Helper()
	want.Cpus = m.s.Cpus
	if want.Online == 0 {
		want.Online = mask.Upto(m.s.Cpus)
	}
	if want.Readers == nil {
		want.Readers = make([]int, m.s.Cpus)
	}
	if !model.Same(m.s, want) {
		m.Fatalf("%+v, want %+v", m.s, want)
	}
}

// step says that a core's step may tell this record, but none that is like it; it goes on by it.
func (m *machine) step(cpu int, r api.Rec) {
	m.Helper()
	e := api.Ev{Kind: api.EvStep, Cpu: cpu}
	for _, other := range changed(r) {
		m.never(e, other)
	}
	m.never(e, r, r)
	m.may(e, r)
}

// gone lets a core go.
func (m *machine) gone(cpu int) {
	m.Helper()
	m.ok(api.Ev{Kind: api.EvOffline, Cpu: cpu}, 0)
	m.may(api.Ev{Kind: api.EvStep}, did(api.RecHot, cpu, 0))
}

// P29.1: New.
func TestNew(t *testing.T) {
	for _, cpus := range append(noCores[:4:4], -1, 0, 65, 128, 1<<32+1, math.MaxInt) {
		if s, why := model.New(cpus); why != api.ErrArg || !reflect.DeepEqual(s, model.State{}) {
			t.Errorf("New(%d) = %+v, %d", cpus, s, why)
		}
	}
	for cpus := 1; cpus <= 64; cpus++ {
		s, why := model.New(cpus)
		want := model.State{Cpus: cpus, Online: ^mask.Mask(0) >> (64 - cpus), Readers: make([]int, cpus)}
		if why != api.OK || !model.Same(s, want) || len(s.Readers) != cpus {
			t.Errorf("New(%d) = %+v, %d", cpus, s, why)
		}
	}
	a, _ := model.New(2)
	a.Readers[0] = 5
	if b, _ := model.New(2); b.Readers[0] != 0 {
		t.Error("two new states share their readers")
	}
}

// full is a state that has something of everything.
func full() model.State {
	return model.State{
		Cpus: 2, Online: 3, Now: 7,
		Threads: []model.Thread{{Id: 1, Prio: 2, Mask: 1, Timer: 3}, {Id: 4, Prio: 1, Mask: 3}},
		Timers:  []model.Timer{{Id: 3, Due: 9, Who: 1}, {Id: 5, Due: 2}},
		Irqs:    []model.Irq{{Id: 0, Masked: true, Pending: true, Mask: 2}, {Id: 7, Mask: 1}},
		Works:   []int{2, 3}, Calls: []int{1, 30}, Objs: []int{5, 96},
		Busy: true, Up: true, Cpu: 1, Readers: []int{1, 4},
	}
}

// changes is ways to change a state, each in one place.
func changes() []func(s *model.State) {
	return []func(s *model.State){
		func(s *model.State) { s.Cpus = 3 }, func(s *model.State) { s.Online = 1 }, func(s *model.State) { s.Now++ },
		func(s *model.State) { s.Busy = false }, func(s *model.State) { s.Up = false }, func(s *model.State) { s.Cpu = 0 },
		func(s *model.State) { s.Threads[1].Id++ }, func(s *model.State) { s.Threads[0].Prio++ }, func(s *model.State) { s.Threads[1].Mask = 1 }, func(s *model.State) { s.Threads[0].Timer = 5 },
		func(s *model.State) { s.Threads = s.Threads[:1] }, func(s *model.State) { s.Threads = append(s.Threads, model.Thread{Id: 5}) },
		func(s *model.State) { s.Timers[1].Id++ }, func(s *model.State) { s.Timers[1].Due++ }, func(s *model.State) { s.Timers[0].Who++ },
		func(s *model.State) { s.Timers = s.Timers[1:] }, func(s *model.State) { s.Timers = append(s.Timers, model.Timer{}) },
		func(s *model.State) { s.Irqs[1].Id++ }, func(s *model.State) { s.Irqs[0].Masked = false }, func(s *model.State) { s.Irqs[0].Pending = false }, func(s *model.State) { s.Irqs[1].Mask = 3 },
		func(s *model.State) { s.Irqs = nil }, func(s *model.State) { s.Irqs = append(s.Irqs, model.Irq{}) },
		func(s *model.State) { s.Works[1]++ }, func(s *model.State) { s.Works = nil }, func(s *model.State) { s.Works = append(s.Works, 4) },
		func(s *model.State) { s.Calls[1]++ }, func(s *model.State) { s.Calls = s.Calls[:1] }, func(s *model.State) { s.Calls = append(s.Calls, 0) },
		func(s *model.State) { s.Objs[0]++ }, func(s *model.State) { s.Objs = s.Objs[:1] }, func(s *model.State) { s.Objs = append(s.Objs, 97) },
		func(s *model.State) { s.Readers[1]-- }, func(s *model.State) { s.Readers = s.Readers[:1] }, func(s *model.State) { s.Readers = append(s.Readers, 0) },
	}
}

// P29.1: Same.
func TestSame(t *testing.T) {
	if !model.Same(full(), full()) || !model.Same(model.State{}, model.State{}) {
		t.Error("a state is not as itself")
	}
	for n, change := range changes() {
		other := copied(full())
		change(&other)
		if model.Same(full(), other) || model.Same(other, full()) {
			t.Error("change", n, "makes no difference")
		}
	}
	empty := model.State{Threads: []model.Thread{}, Timers: []model.Timer{}, Irqs: []model.Irq{}, Works: []int{}, Calls: []int{}, Objs: []int{}, Readers: []int{}}
	if !model.Same(empty, model.State{}) || !model.Same(model.State{}, empty) {
		t.Error("an empty list is not as none")
	}
}

// P29.2: states whose cores, or readers, are not as many as they must be.
func TestNoState(t *testing.T) {
	wrong := func(s model.State) {
		t.Helper()
		for _, l := range [][]api.Rec{nil, {ret(0, api.OK)}, {ret(0, api.ErrRange)}, {ret(0, api.OK), ret(0, api.OK)}} {
			for _, kind := range []int{api.EvStep, api.EvTick, api.EvHold, 31, 0} {
				if next, why := model.Next(s, api.Ev{Kind: kind}, l...); why != api.ErrArg || !reflect.DeepEqual(next, model.State{}) {
					t.Errorf("Next(%+v, %d, %+v) = %+v, %d", s, kind, l, next, why)
				}
			}
		}
	}
	for _, cpus := range append(noCores[:4:4], -1, 0, 65, 66, math.MaxInt) {
		wrong(model.State{Cpus: cpus, Online: 3})
		wrong(model.State{Cpus: cpus, Online: 3, Readers: make([]int, min(max(cpus, 0), 100))})
	}
	for _, cpus := range []int{1, 2, 64} {
		for _, readers := range []int{0, cpus - 1, cpus + 1, 100} {
			s, _ := model.New(cpus)
			s.Readers = make([]int, readers)
			wrong(s)
		}
	}
	for _, cpus := range []int{1, 64} {
		s, _ := model.New(cpus)
		if next, why := model.Next(s, api.Ev{Kind: api.EvStep}); why != api.OK || !model.Same(s, next) {
			t.Error("Next", cpus, next, why)
		}
	}
}

// Example 1.
func TestExample(t *testing.T) {
	m := newMachine(t, 2)
	m.may(api.Ev{Kind: api.EvQueue}, ret(1, api.OK))
	m.may(api.Ev{Kind: api.EvStep}, did(api.RecWork, 0, 1))
	m.never(api.Ev{Kind: api.EvStep}, did(api.RecWork, 0, 1))
}

// P29.2: s is not changed, and shares no memory with what is answered.
func TestOwnMemory(t *testing.T) {
	told := func() model.State {
		m := newMachine(t, 2)
		for range 3 {
			m.may(api.Ev{Kind: api.EvSpawn, Id: 3, Mask: 3}, ret(len(m.s.Threads)+1, api.OK))
			m.may(api.Ev{Kind: api.EvArm, N: 2}, ret(len(m.s.Timers)+1, api.OK))
			m.may(api.Ev{Kind: api.EvRequest, Id: len(m.s.Irqs), Mask: 3}, ret(0, api.OK))
			m.may(api.Ev{Kind: api.EvQueue}, ret(len(m.s.Works)+1, api.OK))
			m.may(api.Ev{Kind: api.EvCall}, ret(len(m.s.Calls)+1, api.OK))
			m.may(api.Ev{Kind: api.EvAlloc}, ret(len(m.s.Objs)+1, api.OK))
			m.may(api.Ev{Kind: api.EvHold}, ret(0, api.OK))
		}
		return m.s
	}
	scrawl := func(s *model.State) {
		s.Threads[0], s.Timers[0], s.Irqs[0], s.Works[0], s.Calls[0], s.Objs[0], s.Readers[0] = model.Thread{Id: -9}, model.Timer{Id: -9}, model.Irq{Id: -9}, -9, -9, -9, -9
		s.Threads, s.Timers, s.Irqs = append(s.Threads, model.Thread{Id: 99}), append(s.Timers, model.Timer{Id: 99}), append(s.Irqs, model.Irq{Id: 99})
		s.Works, s.Calls, s.Objs, s.Readers = append(s.Works, 99), append(s.Calls, 99), append(s.Objs, 99), append(s.Readers, 99)
	}
	for _, c := range []struct {
		e api.Ev
		l []api.Rec
	}{
		{api.Ev{Kind: api.EvStep}, nil}, {api.Ev{Kind: api.EvStep}, []api.Rec{did(api.RecRun, 0, 1)}}, {api.Ev{Kind: api.EvStep}, []api.Rec{did(api.RecWork, 0, 2)}},
		{api.Ev{Kind: api.EvStep}, []api.Rec{did(api.RecCall, 0, 3)}}, {api.Ev{Kind: api.EvTick, N: 3}, []api.Rec{ret(0, api.OK)}}, {api.Ev{Kind: 31}, []api.Rec{ret(0, api.ErrArg)}},
		{api.Ev{Kind: api.EvExit, Id: 2}, []api.Rec{ret(0, api.OK)}}, {api.Ev{Kind: api.EvCancel, Id: 2}, []api.Rec{ret(0, api.OK)}}, {api.Ev{Kind: api.EvGive, Id: 2}, []api.Rec{ret(0, api.OK)}},
		{api.Ev{Kind: api.EvRaise, Id: 2}, []api.Rec{ret(0, api.OK)}}, {api.Ev{Kind: api.EvSleep, Id: 2}, []api.Rec{ret(4, api.OK)}},
	} {
		ahead := told()
		next, _ := model.Next(ahead, c.e, c.l...)
		want := copied(next)
		scrawl(&ahead)
		if !model.Same(next, want) {
			t.Errorf("%+v: what is written into the state ahead is seen behind", c.e)
		}
		ahead = told()
		next, _ = model.Next(ahead, c.e, c.l...)
		scrawl(&next)
		if !model.Same(ahead, told()) {
			t.Errorf("%+v: what is written into the state behind is seen ahead", c.e)
		}
		again, _ := model.Next(ahead, c.e, c.l...)
		if !model.Same(again, want) {
			t.Errorf("%+v: what is written into an answer is seen in a later one", c.e)
		}
	}
}
