package call_test

import (
	"math"
	"slices"
	"testing"

	"davit/api"
	"davit/call"
)

// noCalls are numbers that no call ever has.
var noCalls = []int{math.MinInt, -1 << 32, -32, -1, 0, 33, 34, 64, 1 << 32, 1<<32 + 1, math.MaxInt}

// noCores are numbers that are none of so many cores.
func noCores(cpus int) []int {
	return []int{math.MinInt, -1 << 32, -64, -2, -1, cpus, cpus + 1, 64, 65, 1 << 32, 1<<32 - 1, 1<<32 + 1, math.MaxInt}
}

func made(t *testing.T, cpus int) *call.Box {
	t.Helper()
	x, why := call.New(cpus)
	if why != api.OK || x == nil {
		t.Fatalf("New(%d) = %v, %d", cpus, x, why)
	}
	return x
}

func sends(t *testing.T, x *call.Box, cpu, want int, wantWhy api.Errno) {
	t.Helper()
	if id, why := x.Send(cpu); id != want || why != wantWhy {
		t.Fatalf("Send(%d) = %d, %d, want %d, %d", cpu, id, why, want, wantWhy)
	}
}

func takes(t *testing.T, x *call.Box, cpu, want int, wantWhy api.Errno) {
	t.Helper()
	if id, why := x.Take(cpu); id != want || why != wantWhy {
		t.Fatalf("Take(%d) = %d, %d, want %d, %d", cpu, id, why, want, wantWhy)
	}
}

func moves(t *testing.T, x *call.Box, from, to, want int, wantWhy api.Errno) {
	t.Helper()
	if id, why := x.Move(from, to); id != want || why != wantWhy {
		t.Fatalf("Move(%d, %d) = %d, %d, want %d, %d", from, to, id, why, want, wantWhy)
	}
}

// plain is what a box must be: the calls of each core, in order.
type plain [][]int

func (p plain) isCore(cpu int) bool { return cpu >= 0 && cpu < len(p) }

func (p plain) has(id int) bool {
	for _, list := range p {
		if slices.Contains(list, id) {
			return true
		}
	}
	return false
}

func (p plain) send(cpu int) (int, api.Errno) {
	if !p.isCore(cpu) {
		return 0, api.ErrRange
	}
	for id := 1; id <= 32; id++ {
		if !p.has(id) {
			p[cpu] = append(p[cpu], id)
			return id, api.OK
		}
	}
	return 0, api.ErrFull
}

func (p plain) take(cpu int) (int, api.Errno) {
	if !p.isCore(cpu) {
		return 0, api.ErrRange
	}
	if len(p[cpu]) == 0 {
		return 0, api.ErrEmpty
	}
	id := p[cpu][0]
	p[cpu] = p[cpu][1:]
	return id, api.OK
}

func (p plain) move(from, to int) (int, api.Errno) {
	switch {
	case !p.isCore(from) || !p.isCore(to):
		return 0, api.ErrRange
	case from == to:
		return 0, api.ErrArg
	}
	id, why := p.take(from)
	if why == api.OK {
		p[to] = append(p[to], id)
	}
	return id, why
}

// holds says by each call that only looks that a box is as it must be.
func holds(t *testing.T, what string, x *call.Box, p plain) {
	t.Helper()
	for cpu, want := range p {
		if l := x.List(cpu); !slices.Equal(l, want) || x.Load(cpu) != len(want) {
			t.Fatalf("%s: of %d List = %v, Load = %d, want %v", what, cpu, l, x.Load(cpu), want)
		}
	}
	for id := 0; id <= api.MaxCalls+1; id++ {
		if x.Has(id) != p.has(id) {
			t.Fatalf("%s: Has(%d) = %v", what, id, x.Has(id))
		}
	}
}

// refusesCores says what each call answers of cores that there are not.
func refusesCores(t *testing.T, x *call.Box, want api.Errno, cpus ...int) {
	t.Helper()
	for _, cpu := range cpus {
		sends(t, x, cpu, 0, want)
		takes(t, x, cpu, 0, want)
		// Whichever of both it is, and even if they are one, or the other one has no call.
		for _, other := range []int{0, 1, 2, cpu} {
			moves(t, x, cpu, other, 0, want)
			moves(t, x, other, cpu, 0, want)
		}
		if x.Load(cpu) != 0 || len(x.List(cpu)) != 0 {
			t.Fatalf("of %d Load = %d, List = %v", cpu, x.Load(cpu), x.List(cpu))
		}
	}
}

// lacks says that there are no such calls.
func lacks(t *testing.T, x *call.Box, ids ...int) {
	t.Helper()
	for _, id := range ids {
		if x.Has(id) {
			t.Fatalf("Has(%d)", id)
		}
	}
}

// five is a box of three cores with five calls, and what it must be. Core 0 has none.
func five(t *testing.T) (*call.Box, plain) {
	t.Helper()
	x := made(t, 3)
	for i, cpu := range []int{1, 2, 1, 1, 2} {
		sends(t, x, cpu, i+1, api.OK)
	}
	return x, plain{nil, {1, 3, 4}, {2, 5}}
}

func TestNewTellsHowManyCoresThereMayBe(t *testing.T) {
	for _, cpus := range []int{math.MinInt, -1 << 32, -64, -1, 0, 65, 66, 128, 1 << 32, 1<<32 + 1, math.MaxInt} {
		if x, why := call.New(cpus); x != nil || why != api.ErrArg {
			t.Errorf("New(%d) = %v, %d, want nil, %d", cpus, x, why, api.ErrArg)
		}
	}
	for _, cpus := range []int{1, 2, 63, 64} {
		x, p := made(t, cpus), make(plain, cpus)
		holds(t, "new", x, p)
		refusesCores(t, x, api.ErrRange, noCores(cpus)...)
		lacks(t, x, append([]int{1, 2, 31, 32}, noCalls...)...)
		for cpu := range cpus {
			takes(t, x, cpu, 0, api.ErrEmpty)
		}
		sends(t, x, cpus-1, 1, api.OK)
		p[cpus-1] = []int{1}
		holds(t, "sent", x, p)
	}
}

func TestCallsOfTheDocument(t *testing.T) {
	x := made(t, 2)
	sends(t, x, 0, 1, api.OK)
	sends(t, x, 0, 2, api.OK)
	moves(t, x, 0, 1, 1, api.OK)
	holds(t, "moved", x, plain{{2}, {1}})
	takes(t, x, 0, 2, api.OK)
	takes(t, x, 1, 1, api.OK)
	holds(t, "the document's", x, plain{nil, nil})
}

func TestSend(t *testing.T) {
	x, p := made(t, 3), make(plain, 3)
	for id := 1; id <= api.MaxCalls; id++ {
		sends(t, x, id%3, id, api.OK)
		p[id%3] = append(p[id%3], id)
		holds(t, "sent", x, p)
	}
	for cpu := range 3 {
		sends(t, x, cpu, 0, api.ErrFull)
	}
	holds(t, "full", x, p)
	// That there is no such core is told ahead of that there is no room.
	refusesCores(t, x, api.ErrRange, noCores(3)...)
	holds(t, "refused", x, p)
	lacks(t, x, noCalls...)
}

// TestOneCoreHasRoomForAll sends, or moves, as many calls as there may be to one core.
func TestOneCoreHasRoomForAll(t *testing.T) {
	x, p := made(t, 33), make(plain, 33)
	for id := 1; id <= api.MaxCalls; id++ {
		sends(t, x, 0, id, api.OK)
		p[0] = append(p[0], id)
	}
	for cpu := range 33 {
		sends(t, x, cpu, 0, api.ErrFull)
	}
	holds(t, "all sent to one", x, p)
	for id := 1; id <= api.MaxCalls; id++ {
		moves(t, x, 0, id, id, api.OK)
	}
	for id := api.MaxCalls; id >= 1; id-- {
		moves(t, x, id, 0, id, api.OK)
	}
	slices.Reverse(p[0])
	holds(t, "all moved to one", x, p)
	for id := api.MaxCalls; id >= 1; id-- {
		takes(t, x, 0, id, api.OK)
	}
	holds(t, "all taken", x, make(plain, 33))
}

// TestEachNumberComesBack takes one of as many calls as there may be, whose number is the next one's.
func TestEachNumberComesBack(t *testing.T) {
	x := made(t, 3)
	for id := 1; id <= api.MaxCalls; id++ {
		sends(t, x, 0, id, api.OK)
	}
	for id := 1; id <= api.MaxCalls; id++ {
		takes(t, x, 0, id, api.OK)
		lacks(t, x, id)
		sends(t, x, 1, id, api.OK)
		sends(t, x, 1, 0, api.ErrFull)
		// What was moved is not taken: its number is not free.
		moves(t, x, 1, 2, id, api.OK)
		sends(t, x, 1, 0, api.ErrFull)
	}
	for id := 1; id <= 5; id++ {
		takes(t, x, 2, id, api.OK)
	}
	for id := 1; id <= 5; id++ {
		sends(t, x, id%2, id, api.OK)
	}
	sends(t, x, 0, 0, api.ErrFull)
}

func TestTake(t *testing.T) {
	x, p := five(t)
	takes(t, x, 0, 0, api.ErrEmpty)
	refusesCores(t, x, api.ErrRange, noCores(3)...)
	holds(t, "refused", x, p)
	for _, one := range [][2]int{{1, 1}, {2, 2}, {1, 3}, {1, 4}} {
		takes(t, x, one[0], one[1], api.OK)
		p[one[0]] = p[one[0]][1:]
		holds(t, "taken", x, p)
		lacks(t, x, one[1])
	}
	// What is another core's is left to it.
	takes(t, x, 1, 0, api.ErrEmpty)
	holds(t, "refused", x, p)
	takes(t, x, 2, 5, api.OK)
	takes(t, x, 2, 0, api.ErrEmpty)
	holds(t, "all taken", x, make(plain, 3))
}

func TestMove(t *testing.T) {
	x, p := five(t)
	for cpu := range 3 {
		// That they are one core is told ahead of that it has none.
		moves(t, x, cpu, cpu, 0, api.ErrArg)
		if cpu != 0 {
			moves(t, x, 0, cpu, 0, api.ErrEmpty)
		}
	}
	refusesCores(t, x, api.ErrRange, noCores(3)...)
	holds(t, "refused", x, p)
	// It goes behind the others, though they have greater numbers.
	moves(t, x, 1, 2, 1, api.OK)
	holds(t, "moved", x, plain{nil, {3, 4}, {2, 5, 1}})
	moves(t, x, 2, 1, 2, api.OK)
	moves(t, x, 2, 0, 5, api.OK)
	moves(t, x, 2, 0, 1, api.OK)
	moves(t, x, 2, 0, 0, api.ErrEmpty)
	holds(t, "moved on", x, plain{{5, 1}, {3, 4, 2}, nil})
	for _, one := range [][2]int{{0, 5}, {0, 1}, {1, 3}, {1, 4}, {1, 2}} {
		takes(t, x, one[0], one[1], api.OK)
	}
	holds(t, "all taken", x, make(plain, 3))
}

// TestEachCallIsTakenOnce sends calls in rounds while cores take and move them, and holds against each other in which order they come to a core and are taken there.
func TestEachCallIsTakenOnce(t *testing.T) {
	for _, cpus := range []int{2, 3, 64} {
		x, came, sent, taken := made(t, cpus), make([][]int, cpus), 0, 0
		take := func(cpu int) bool {
			id, why := x.Take(cpu)
			if len(came[cpu]) == 0 {
				if id != 0 || why != api.ErrEmpty {
					t.Fatalf("Take(%d) = %d, %d of none", cpu, id, why)
				}
				return false
			}
			if why != api.OK || id != came[cpu][0] {
				t.Fatalf("Take(%d) = %d, %d of %v", cpu, id, why, came[cpu])
			}
			came[cpu] = came[cpu][1:]
			taken++
			return true
		}
		for round := range 300 {
			for i := range round % 4 {
				cpu := (round + i) % cpus
				if id, why := x.Send(cpu); why == api.OK {
					came[cpu] = append(came[cpu], id)
					sent++
				}
			}
			from := round * 7 % cpus
			to := (from + 1) % cpus
			if id, why := x.Move(from, to); why == api.OK {
				came[from], came[to] = came[from][1:], append(came[to], id)
			}
			take(round * 5 % cpus)
		}
		for cpu := range cpus {
			for take(cpu) {
			}
		}
		if sent != taken || sent < 100 {
			t.Errorf("%d cores: %d were sent, %d taken", cpus, sent, taken)
		}
	}
}

func TestListIsTheCallersOwn(t *testing.T) {
	x, p := five(t)
	list, other := x.List(1), x.List(1)
	for i := range list {
		list[i] = 32
	}
	_, _ = append(list[:1], 31, 30, 29), append(other, 28)
	if !slices.Equal(other, []int{1, 3, 4}) {
		t.Errorf("another list is %v after one was written into", other)
	}
	holds(t, "written into", x, p)
	takes(t, x, 1, 1, api.OK)
	sends(t, x, 1, 1, api.OK)
	if !slices.Equal(other, []int{1, 3, 4}) {
		t.Errorf("a list is %v after a call", other)
	}
}

func TestBoxesShareNothing(t *testing.T) {
	x, p := five(t)
	y, _ := five(t)
	takes(t, y, 1, 1, api.OK)
	moves(t, y, 1, 0, 3, api.OK)
	sends(t, y, 0, 1, api.OK)
	takes(t, y, 2, 2, api.OK)
	holds(t, "one", x, p)
	holds(t, "the other", y, plain{{3, 1}, {4}, {5}})
}

func TestNilBox(t *testing.T) {
	var x *call.Box
	refusesCores(t, x, api.ErrNil, append([]int{0, 1, 2}, noCores(1)...)...)
	lacks(t, x, append([]int{1, 2, 32}, noCalls...)...)
}

// TestBoxThatNewDidNotMake: nothing panics; it is one of no cores.
func TestBoxThatNewDidNotMake(t *testing.T) {
	x := &call.Box{}
	refusesCores(t, x, api.ErrRange, append([]int{0, 1, 2}, noCores(1)...)...)
	lacks(t, x, append([]int{1, 2, 32}, noCalls...)...)
}

// TestMixedRuns holds long runs against the plain box.
func TestMixedRuns(t *testing.T) {
	state := uint64(18)
	below := func(n int) int {
		state = state*6364136223846793005 + 1442695040888963407
		return int((state >> 33) % uint64(n))
	}
	for _, cpus := range []int{1, 2, 5, 63, 64} {
		x, p := made(t, cpus), make(plain, cpus)
		for step := range 3000 {
			// So that it is full at times, and empty at times.
			more := step / 300 % 2
			cpu, to := below(cpus+2)-1, below(cpus+2)-1
			var got, want, gotId, wantId = api.OK, api.OK, 0, 0
			switch below(7 + 3*more) {
			case 0, 7, 8, 9:
				gotId, got = x.Send(cpu)
				wantId, want = p.send(cpu)
			case 1, 2:
				gotId, got = x.Take(cpu)
				wantId, want = p.take(cpu)
			default:
				gotId, got = x.Move(cpu, to)
				wantId, want = p.move(cpu, to)
			}
			if got != want || gotId != wantId {
				t.Fatalf("%d cores, step %d: %d, %d, want %d, %d", cpus, step, gotId, got, wantId, want)
			}
			holds(t, "mixed", x, p)
		}
	}
}
