package gate_test

import (
	"math"
	"testing"

	"davit/api"
	"davit/gate"
)

// most is how many readers the chapter lets in.
const most = 1000

// noCores are numbers that are none of so many cores.
func noCores(cpus int) []int {
	return []int{math.MinInt, -1 << 32, -64, -2, -1, cpus, cpus + 1, 64, 65, 1 << 32, 1<<32 - 1, 1<<32 + 1, math.MaxInt}
}

func made(t *testing.T, cpus int) *gate.Gate {
	t.Helper()
	g, why := gate.New(cpus)
	if why != api.OK || g == nil {
		t.Fatalf("New(%d) = %v, %d", cpus, g, why)
	}
	return g
}

// gives holds what a call answered against what it must.
func gives(t *testing.T, what string, why, want api.Errno) {
	t.Helper()
	if why != want {
		t.Fatalf("%s = %d, want %d", what, why, want)
	}
}

// plain is what a gate must be: its state, and the readers of each core.
type plain struct {
	state int
	on    []int
}

func (p *plain) isCore(cpu int) bool { return cpu >= 0 && cpu < len(p.on) }

func (p *plain) readers() int {
	sum := 0
	for _, n := range p.on {
		sum += n
	}
	return sum
}

func (p *plain) enter(cpu int) api.Errno {
	switch {
	case !p.isCore(cpu):
		return api.ErrRange
	case p.state != 0:
		return api.ErrBusy
	case p.readers() == most:
		return api.ErrFull
	}
	p.on[cpu]++
	return api.OK
}

func (p *plain) leave(cpu int) api.Errno {
	switch {
	case !p.isCore(cpu):
		return api.ErrRange
	case p.on[cpu] == 0:
		return api.ErrEmpty
	}
	p.on[cpu]--
	return api.OK
}

func (p *plain) want() api.Errno {
	if p.state != 0 {
		return api.ErrBusy
	}
	p.state = 1
	return api.OK
}

func (p *plain) take() api.Errno {
	switch {
	case p.state != 1:
		return api.ErrState
	case p.readers() != 0:
		return api.ErrBusy
	}
	p.state = 2
	return api.OK
}

func (p *plain) free() api.Errno {
	if p.state == 0 {
		return api.ErrState
	}
	p.state = 0
	return api.OK
}

// holds says by each call that only looks that a gate is as it must be.
func holds(t *testing.T, what string, g *gate.Gate, state int, on ...int) {
	t.Helper()
	p := plain{state, on}
	if g.State() != state || g.Readers() != p.readers() {
		t.Fatalf("%s: State = %d, Readers = %d, want %d, %d", what, g.State(), g.Readers(), state, p.readers())
	}
	for cpu, want := range on {
		if n := g.On(cpu); n != want {
			t.Fatalf("%s: On(%d) = %d, want %d", what, cpu, n, want)
		}
	}
	for _, cpu := range noCores(len(on)) {
		if n := g.On(cpu); !p.isCore(cpu) && n != 0 {
			t.Fatalf("%s: On(%d) = %d, want 0", what, cpu, n)
		}
	}
}

// refusesCores says what Enter and Leave answer of cores that there are not.
func refusesCores(t *testing.T, g *gate.Gate, want api.Errno, cpus ...int) {
	t.Helper()
	for _, cpu := range cpus {
		if why := g.Enter(cpu); why != want {
			t.Fatalf("Enter(%d) = %d, want %d", cpu, why, want)
		}
		if why := g.Leave(cpu); why != want {
			t.Fatalf("Leave(%d) = %d, want %d", cpu, why, want)
		}
	}
}

// wanted is a gate with one reader on each of some cores, that is wanted.
func wanted(t *testing.T, cpus int, on ...int) *gate.Gate {
	t.Helper()
	g := made(t, cpus)
	for _, cpu := range on {
		gives(t, "Enter", g.Enter(cpu), api.OK)
	}
	gives(t, "Want", g.Want(), api.OK)
	return g
}

// taken is a gate that is taken.
func taken(t *testing.T, cpus int) *gate.Gate {
	t.Helper()
	g := wanted(t, cpus)
	gives(t, "Take", g.Take(), api.OK)
	return g
}

func TestStates(t *testing.T) {
	if gate.Open != 0 || gate.Wanted != 1 || gate.Taken != 2 {
		t.Error("the states' numbers are", gate.Open, gate.Wanted, gate.Taken)
	}
}

func TestNew(t *testing.T) {
	for _, cpus := range []int{math.MinInt, -1 << 32, -64, -1, 0, 65, 66, 128, 1 << 32, 1<<32 + 1, math.MaxInt} {
		if g, why := gate.New(cpus); g != nil || why != api.ErrArg {
			t.Errorf("New(%d) = %v, %d", cpus, g, why)
		}
	}
	for _, cpus := range []int{1, 2, 63, 64} {
		g := made(t, cpus)
		holds(t, "new", g, gate.Open, make([]int, cpus)...)
		refusesCores(t, g, api.ErrRange, noCores(cpus)[:6]...)
		gives(t, "Enter of the last core", g.Enter(cpus-1), api.OK)
		on := make([]int, cpus)
		on[cpus-1] = 1
		holds(t, "entered", g, gate.Open, on...)
	}
}

func TestExample(t *testing.T) {
	g := made(t, 2)
	gives(t, "Enter(0)", g.Enter(0), api.OK)
	gives(t, "Want", g.Want(), api.OK)
	gives(t, "Enter(1)", g.Enter(1), api.ErrBusy)
	gives(t, "Take", g.Take(), api.ErrBusy)
	gives(t, "Leave(0)", g.Leave(0), api.OK)
	gives(t, "Take", g.Take(), api.OK)
	holds(t, "taken", g, gate.Taken, 0, 0)
}

func TestReadersAreOnTheirCores(t *testing.T) {
	g := made(t, 3)
	for _, cpu := range []int{2, 0, 2, 2} {
		gives(t, "Enter", g.Enter(cpu), api.OK)
	}
	holds(t, "entered", g, gate.Open, 1, 0, 3)
	gives(t, "Leave of a core without readers", g.Leave(1), api.ErrEmpty)
	gives(t, "Leave(2)", g.Leave(2), api.OK)
	gives(t, "Leave(0)", g.Leave(0), api.OK)
	gives(t, "Leave of a core whose readers left", g.Leave(0), api.ErrEmpty)
	holds(t, "left", g, gate.Open, 0, 0, 2)
}

func TestEnterErrors(t *testing.T) {
	g := wanted(t, 2, 1)
	refusesCores(t, g, api.ErrRange, noCores(2)...)
	gives(t, "Enter of a wanted gate", g.Enter(0), api.ErrBusy)
	gives(t, "Enter of a wanted gate", g.Enter(1), api.ErrBusy)
	holds(t, "wanted", g, gate.Wanted, 0, 1)

	g = taken(t, 2)
	refusesCores(t, g, api.ErrRange, noCores(2)...)
	gives(t, "Enter of a taken gate", g.Enter(0), api.ErrBusy)
	gives(t, "Leave of a taken gate", g.Leave(0), api.ErrEmpty)
	holds(t, "taken", g, gate.Taken, 0, 0)
}

func TestEnterIsFull(t *testing.T) {
	g := made(t, 3)
	for i := range most {
		gives(t, "Enter", g.Enter(i%2), api.OK)
	}
	holds(t, "full", g, gate.Open, most/2, most/2, 0)
	for cpu := range 3 {
		gives(t, "Enter of a full gate", g.Enter(cpu), api.ErrFull)
	}
	refusesCores(t, g, api.ErrRange, noCores(3)...)
	holds(t, "refused", g, gate.Open, most/2, most/2, 0)

	gives(t, "Leave(1)", g.Leave(1), api.OK)
	gives(t, "Enter(2)", g.Enter(2), api.OK)
	gives(t, "Enter(2)", g.Enter(2), api.ErrFull)
	holds(t, "full again", g, gate.Open, most/2, most/2-1, 1)

	gives(t, "Want of a full gate", g.Want(), api.OK)
	gives(t, "Enter of a full and wanted gate", g.Enter(0), api.ErrBusy)
	gives(t, "Enter of no core", g.Enter(3), api.ErrRange)
}

func TestOneCoreHasAllReaders(t *testing.T) {
	g := made(t, 64)
	for range most {
		gives(t, "Enter", g.Enter(63), api.OK)
	}
	gives(t, "Enter", g.Enter(63), api.ErrFull)
	gives(t, "Enter", g.Enter(0), api.ErrFull)
	if g.On(63) != most || g.Readers() != most {
		t.Error("On, Readers", g.On(63), g.Readers())
	}
	for range most {
		gives(t, "Leave", g.Leave(63), api.OK)
	}
	gives(t, "Leave", g.Leave(63), api.ErrEmpty)
}

func TestWant(t *testing.T) {
	g := made(t, 1)
	gives(t, "Want", g.Want(), api.OK)
	holds(t, "wanted", g, gate.Wanted, 0)
	gives(t, "Want of a wanted gate", g.Want(), api.ErrBusy)
	holds(t, "wanted", g, gate.Wanted, 0)
	gives(t, "Take", g.Take(), api.OK)
	gives(t, "Want of a taken gate", g.Want(), api.ErrBusy)
	holds(t, "taken", g, gate.Taken, 0)
}

func TestTake(t *testing.T) {
	g := made(t, 2)
	gives(t, "Take of an open gate", g.Take(), api.ErrState)
	gives(t, "Enter", g.Enter(1), api.OK)
	gives(t, "Take of an open gate with a reader", g.Take(), api.ErrState)
	holds(t, "open", g, gate.Open, 0, 1)

	g = wanted(t, 2, 1)
	gives(t, "Take with a reader", g.Take(), api.ErrBusy)
	holds(t, "wanted", g, gate.Wanted, 0, 1)

	g = taken(t, 2)
	gives(t, "Take of a taken gate", g.Take(), api.ErrState)
	holds(t, "taken", g, gate.Taken, 0, 0)
}

func TestFree(t *testing.T) {
	g := made(t, 2)
	gives(t, "Enter", g.Enter(0), api.OK)
	gives(t, "Free of an open gate", g.Free(), api.ErrState)
	holds(t, "open", g, gate.Open, 1, 0)

	gives(t, "Want", g.Want(), api.OK)
	gives(t, "Free of a wanted gate", g.Free(), api.OK)
	holds(t, "freed with its reader", g, gate.Open, 1, 0)
	gives(t, "Enter", g.Enter(1), api.OK)

	g = taken(t, 2)
	gives(t, "Free of a taken gate", g.Free(), api.OK)
	holds(t, "freed", g, gate.Open, 0, 0)
	gives(t, "Free a second time", g.Free(), api.ErrState)
	gives(t, "Take of a gate that was freed", g.Take(), api.ErrState)
	gives(t, "Enter", g.Enter(1), api.OK)
	holds(t, "entered", g, gate.Open, 0, 1)
}

// TestTakeComesWhenReadersHaveLeft: P19.3: no reader comes to a wanted gate, so that as many leave as there were; from there on it is taken, and none is there.
func TestTakeComesWhenReadersHaveLeft(t *testing.T) {
	g := wanted(t, 4, 3, 0, 0, 2, 3, 3)
	for _, cpu := range []int{0, 3, 2, 3, 0, 3} {
		gives(t, "Take", g.Take(), api.ErrBusy)
		for c := range 4 {
			gives(t, "Enter", g.Enter(c), api.ErrBusy)
		}
		gives(t, "Leave", g.Leave(cpu), api.OK)
	}
	gives(t, "Take", g.Take(), api.OK)
	for c := range 4 {
		gives(t, "Enter", g.Enter(c), api.ErrBusy)
	}
	holds(t, "taken", g, gate.Taken, 0, 0, 0, 0)
}

func TestGatesShareNothing(t *testing.T) {
	a, b := made(t, 2), made(t, 2)
	gives(t, "Enter", a.Enter(1), api.OK)
	gives(t, "Want", a.Want(), api.OK)
	holds(t, "the other one", b, gate.Open, 0, 0)
	gives(t, "Enter", b.Enter(0), api.OK)
	holds(t, "the one", a, gate.Wanted, 0, 1)
}

func TestNil(t *testing.T) {
	var g *gate.Gate
	refusesCores(t, g, api.ErrNil, append(noCores(1), 0)...)
	gives(t, "Want", g.Want(), api.ErrNil)
	gives(t, "Take", g.Take(), api.ErrNil)
	gives(t, "Free", g.Free(), api.ErrNil)
	holds(t, "nil", g, 0, 0, 0)
}

func TestNotMadeByNew(t *testing.T) {
	g := &gate.Gate{}
	refusesCores(t, g, api.ErrRange, append(noCores(1), 0)...)
	gives(t, "Take", g.Take(), api.ErrState)
	gives(t, "Want", g.Want(), api.OK)
	gives(t, "Take", g.Take(), api.OK)
	gives(t, "Free", g.Free(), api.OK)
	holds(t, "zero", g, gate.Open, 0)
}

func TestMixedRuns(t *testing.T) {
	state := uint64(19)
	pick := func(n int) int {
		state = state*6364136223846793005 + 1442695040888963407
		return int(state>>33) % n
	}
	for _, cpus := range []int{1, 2, 5, 64} {
		g, p := made(t, cpus), &plain{on: make([]int, cpus)}
		for range 6000 {
			cpu := pick(cpus+2) - 1
			switch pick(9) {
			case 0, 1, 2:
				gives(t, "Enter", g.Enter(cpu), p.enter(cpu))
			case 3, 4, 5:
				gives(t, "Leave", g.Leave(cpu), p.leave(cpu))
			case 6:
				gives(t, "Want", g.Want(), p.want())
			case 7:
				gives(t, "Take", g.Take(), p.take())
			default:
				gives(t, "Free", g.Free(), p.free())
			}
			holds(t, "mixed", g, p.state, p.on...)
			if g.State() == gate.Taken && g.Readers() != 0 {
				t.Fatal("a taken gate has readers")
			}
		}
	}
}
