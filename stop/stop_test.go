package stop_test

import (
	"math"
	"testing"

	"davit/api"
	"davit/mask"
	"davit/stop"
)

// noCores are numbers that are no cores at all.
var noCores = []int{math.MinInt, -1 << 32, -64, -2, -1, 64, 65, 128, 1 << 32, 1<<32 - 1, 1<<32 + 1, math.MaxInt}

// gives holds what a call answered against what it must.
func gives(t *testing.T, what string, why, want api.Errno) {
	t.Helper()
	if why != want {
		t.Fatalf("%s = %d, want %d", what, why, want)
	}
}

// begun is a stop that has begun, of which some cores stand still.
func begun(t *testing.T, who mask.Mask, still ...int) *stop.Stop {
	t.Helper()
	s := &stop.Stop{}
	gives(t, "Begin", s.Begin(who), api.OK)
	for _, cpu := range still {
		gives(t, "Ack", s.Ack(cpu), api.OK)
	}
	return s
}

// plain is what a stop must be: whether it has begun, the cores that are to stand still, and those that do.
type plain struct {
	on        bool
	who, held uint64
}

func (p *plain) bits(cpu int) uint64 {
	if cpu < 0 || cpu > 63 {
		return 0
	}
	return 1 << cpu
}

func (p *plain) begin(who uint64) api.Errno {
	switch {
	case p.on:
		return api.ErrBusy
	case who == 0:
		return api.ErrArg
	}
	*p = plain{on: true, who: who}
	return api.OK
}

func (p *plain) ack(cpu int) api.Errno {
	if !p.on || p.who&^p.held&p.bits(cpu) == 0 {
		return api.ErrState
	}
	p.held |= p.bits(cpu)
	return api.OK
}

func (p *plain) free() api.Errno {
	if !p.on {
		return api.ErrState
	}
	*p = plain{}
	return api.OK
}

// holds says by each call that only looks that a stop is as it must be.
func holds(t *testing.T, what string, s *stop.Stop, p plain) {
	t.Helper()
	left := p.who &^ p.held
	if s.On() != p.on || s.Left() != mask.Mask(left) || s.Ready() != (p.on && left == 0) {
		t.Fatalf("%s: On = %v, Left = %x, Ready = %v, want %v, %x", what, s.On(), s.Left(), s.Ready(), p.on, left)
	}
	for cpu := range api.MaxCpu {
		must, held := left>>cpu&1 == 1, p.held>>cpu&1 == 1
		if s.Must(cpu) != must || s.Held(cpu) != held {
			t.Fatalf("%s: of %d Must = %v, Held = %v, want %v, %v", what, cpu, s.Must(cpu), s.Held(cpu), must, held)
		}
	}
	for _, cpu := range noCores {
		if s.Must(cpu) || s.Held(cpu) {
			t.Fatalf("%s: of %d Must = %v, Held = %v", what, cpu, s.Must(cpu), s.Held(cpu))
		}
	}
}

// refusesAck says that no core in 0 to 63 but those of can, and no number that is no core, may acknowledge.
func refusesAck(t *testing.T, s *stop.Stop, want api.Errno, can mask.Mask) {
	t.Helper()
	for cpu := range api.MaxCpu {
		if can>>cpu&1 == 0 {
			gives(t, "Ack", s.Ack(cpu), want)
		}
	}
	for _, cpu := range noCores {
		gives(t, "Ack of no core", s.Ack(cpu), want)
	}
}

func TestZeroHasNotBegun(t *testing.T) {
	var s stop.Stop
	holds(t, "zero", &s, plain{})
	refusesAck(t, &s, api.ErrState, 0)
	gives(t, "Free", s.Free(), api.ErrState)
	holds(t, "refused", &s, plain{})
	gives(t, "Begin", s.Begin(1), api.OK)
}

func TestExample(t *testing.T) {
	s := begun(t, mask.Of(0, 2))
	gives(t, "Ack(2)", s.Ack(2), api.OK)
	if s.Ready() {
		t.Error("Ready ahead of core 0")
	}
	gives(t, "Ack(0)", s.Ack(0), api.OK)
	if !s.Ready() {
		t.Error("not Ready")
	}
}

func TestBegin(t *testing.T) {
	s := &stop.Stop{}
	gives(t, "Begin of none", s.Begin(0), api.ErrArg)
	holds(t, "refused", s, plain{})
	for _, who := range []uint64{1, 2, 1 << 31, 1 << 32, 1 << 63, 13, 1<<63 | 1, math.MaxUint64} {
		s := &stop.Stop{}
		gives(t, "Begin", s.Begin(mask.Mask(who)), api.OK)
		holds(t, "begun", s, plain{true, who, 0})
	}
}

// TestBeginTwice: it is busy with none, some and all that stand still, and of the empty mask, too.
func TestBeginTwice(t *testing.T) {
	for held, s := range map[uint64]*stop.Stop{
		0:  begun(t, 13),
		4:  begun(t, 13, 2),
		13: begun(t, 13, 3, 0, 2),
	} {
		for _, who := range []mask.Mask{0, 1, 13, 16, ^mask.Mask(0)} {
			gives(t, "Begin of what has begun", s.Begin(who), api.ErrBusy)
			holds(t, "busy", s, plain{true, 13, held})
		}
	}
}

func TestAck(t *testing.T) {
	s := begun(t, mask.Of(0, 2, 63))
	refusesAck(t, s, api.ErrState, mask.Of(0, 2, 63))
	holds(t, "refused", s, plain{true, 1<<63 | 5, 0})
	gives(t, "Ack(63)", s.Ack(63), api.OK)
	holds(t, "63 stands still", s, plain{true, 1<<63 | 5, 1 << 63})
	gives(t, "Ack a second time", s.Ack(63), api.ErrState)
	gives(t, "Ack(2)", s.Ack(2), api.OK)
	gives(t, "Ack(0)", s.Ack(0), api.OK)
	refusesAck(t, s, api.ErrState, 0)
	holds(t, "all stand still", s, plain{true, 1<<63 | 5, 1<<63 | 5})
}

func TestFree(t *testing.T) {
	for _, s := range []*stop.Stop{begun(t, 13), begun(t, 13, 2), begun(t, 13, 3, 0, 2)} {
		gives(t, "Free", s.Free(), api.OK)
		holds(t, "freed", s, plain{})
		gives(t, "Free a second time", s.Free(), api.ErrState)
		refusesAck(t, s, api.ErrState, 0)
		gives(t, "Begin of none", s.Begin(0), api.ErrArg)
		gives(t, "Begin again", s.Begin(6), api.OK)
		holds(t, "begun again", s, plain{true, 6, 0})
		gives(t, "Ack again", s.Ack(2), api.OK)
		holds(t, "acknowledged again", s, plain{true, 6, 4})
	}
}

// orders hands on each order of a list.
func orders(list []int, to func([]int)) {
	if len(list) == 0 {
		to(nil)
		return
	}
	for i, first := range list {
		rest := append(append([]int{}, list[:i]...), list[i+1:]...)
		orders(rest, func(tail []int) { to(append([]int{first}, tail...)) })
	}
}

// TestReadyInEachOrder: P20.3: it is ready at the last acknowledgement, and no sooner.
func TestReadyInEachOrder(t *testing.T) {
	orders([]int{0, 5, 31, 32, 63}, func(order []int) {
		s := begun(t, mask.Of(order...))
		for _, cpu := range order {
			if s.Ready() {
				t.Fatal("Ready ahead of", cpu, "in", order)
			}
			gives(t, "Ack", s.Ack(cpu), api.OK)
		}
		if !s.Ready() {
			t.Fatal("not Ready behind", order)
		}
	})
}

func TestAllCores(t *testing.T) {
	s := begun(t, mask.Upto(64))
	for cpu := range api.MaxCpu {
		if s.Ready() {
			t.Fatal("Ready ahead of", cpu)
		}
		gives(t, "Ack", s.Ack(cpu), api.OK)
	}
	holds(t, "all", s, plain{true, math.MaxUint64, math.MaxUint64})
}

func TestStopsShareNothing(t *testing.T) {
	a, b := begun(t, 3, 0), begun(t, 5, 2)
	holds(t, "the one", a, plain{true, 3, 1})
	holds(t, "the other one", b, plain{true, 5, 4})
	gives(t, "Free", a.Free(), api.OK)
	holds(t, "the other one", b, plain{true, 5, 4})
}

func TestNil(t *testing.T) {
	var s *stop.Stop
	for _, who := range []mask.Mask{0, 1, ^mask.Mask(0)} {
		gives(t, "Begin", s.Begin(who), api.ErrNil)
	}
	refusesAck(t, s, api.ErrNil, 0)
	gives(t, "Free", s.Free(), api.ErrNil)
	holds(t, "nil", s, plain{})
}

func TestMixedRuns(t *testing.T) {
	state := uint64(20)
	pick := func(n int) int {
		state = state*6364136223846793005 + 1442695040888963407
		return int(state>>33) % n
	}
	for _, cpus := range []int{1, 2, 5, 64} {
		s, p := &stop.Stop{}, &plain{}
		for range 4000 {
			switch pick(12) {
			case 0, 1:
				who := uint64(pick(1<<30))<<34 ^ uint64(pick(1<<30))<<17 ^ uint64(pick(1<<30))
				who &= uint64(mask.Upto(cpus))
				gives(t, "Begin", s.Begin(mask.Mask(who)), p.begin(who))
			case 2:
				// Seldom enough that many runs come to be ready.
				if pick(cpus) == 0 {
					gives(t, "Free", s.Free(), p.free())
				}
			default:
				cpu := pick(cpus+2) - 1
				gives(t, "Ack", s.Ack(cpu), p.ack(cpu))
			}
			holds(t, "mixed", s, *p)
		}
	}
}
