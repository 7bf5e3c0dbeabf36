package runq_test

import (
	"math"
	"slices"
	"testing"

	"davit/api"
	"davit/mask"
	"davit/runq"
)

// noCores are numbers that no core has, noPrios such that are no priorities, unlikely ones are things as good as any.
var (
	noCores  = []int{math.MinInt, -1 << 32, -64, -1, 64, 65, 1 << 32, 1<<32 + 1, math.MaxInt}
	noPrios  = []int{math.MinInt, -1, 8, 9, 1 << 32, math.MaxInt}
	unlikely = []int{0, -1, math.MinInt, math.MaxInt, 1 << 32, -1 << 32, 1<<32 + 1}
)

func made(t *testing.T, cpus int) *runq.Runq {
	t.Helper()
	r, why := runq.New(cpus)
	if why != api.OK || r == nil {
		t.Fatalf("New(%d) = %v, %d", cpus, r, why)
	}
	return r
}

// puts puts things of one priority on a core.
func puts(t *testing.T, r *runq.Runq, cpu, prio int, want api.Errno, ids ...int) {
	t.Helper()
	for _, id := range ids {
		if why := r.Put(cpu, prio, id); why != want {
			t.Fatalf("Put(%d, %d, %d) = %d, want %d", cpu, prio, id, why, want)
		}
	}
}

// picks says which things a core picks, one behind the other.
func picks(t *testing.T, r *runq.Runq, cpu int, want ...int) {
	t.Helper()
	for i, one := range want {
		if id, why := r.Pick(cpu); id != one || why != api.OK {
			t.Fatalf("Pick(%d), number %d = %d, %d, want %d, %d", cpu, i, id, why, one, api.OK)
		}
	}
}

func picksNone(t *testing.T, r *runq.Runq, cpu int, want api.Errno) {
	t.Helper()
	if id, why := r.Pick(cpu); id != 0 || why != want {
		t.Fatalf("Pick(%d) = %d, %d, want 0, %d", cpu, id, why, want)
	}
}

func moves(t *testing.T, r *runq.Runq, from, to, want int, wantWhy api.Errno) {
	t.Helper()
	if id, why := r.Move(from, to); id != want || why != wantWhy {
		t.Fatalf("Move(%d, %d) = %d, %d, want %d, %d", from, to, id, why, want, wantWhy)
	}
}

func answers(t *testing.T, what string, why, want api.Errno) {
	t.Helper()
	if why != want {
		t.Fatalf("%s = %d, want %d", what, why, want)
	}
}

// holds says that the cores have these things, and no others, by each call that only looks.
func holds(t *testing.T, what string, r *runq.Runq, cores ...[]int) {
	t.Helper()
	for cpu, want := range cores {
		if l := r.List(cpu); !slices.Equal(l, want) {
			t.Fatalf("%s: List(%d) = %v, want %v", what, cpu, l, want)
		}
		if r.Load(cpu) != len(want) {
			t.Fatalf("%s: Load(%d) = %d, want %d", what, cpu, r.Load(cpu), len(want))
		}
		for _, id := range want {
			if c, on := r.Where(id); c != cpu || !on {
				t.Fatalf("%s: Where(%d) = %d, %v, want %d, true", what, id, c, on, cpu)
			}
		}
	}
	for _, cpu := range append([]int{len(cores)}, noCores...) {
		if l := r.List(cpu); len(l) != 0 || r.Load(cpu) != 0 {
			t.Fatalf("%s: List(%d) = %v, Load = %d", what, cpu, l, r.Load(cpu))
		}
	}
}

// ranks says that things have this priority.
func ranks(t *testing.T, r *runq.Runq, prio int, ids ...int) {
	t.Helper()
	for _, id := range ids {
		if p, on := r.Prio(id); p != prio || !on {
			t.Fatalf("Prio(%d) = %d, %v, want %d, true", id, p, on, prio)
		}
	}
}

// lacks says that things are on no core.
func lacks(t *testing.T, r *runq.Runq, ids ...int) {
	t.Helper()
	for _, id := range ids {
		if c, on := r.Where(id); c != 0 || on {
			t.Fatalf("Where(%d) = %d, %v, want 0, false", id, c, on)
		}
		if p, on := r.Prio(id); p != 0 || on {
			t.Fatalf("Prio(%d) = %d, %v, want 0, false", id, p, on)
		}
		answers(t, "Take", r.Take(id), api.ErrNone)
		answers(t, "Back", r.Back(id), api.ErrNone)
	}
}

// list spells a list of things.
func list(ids ...int) []int { return ids }

// upto is the things from first on, so many.
func upto(first, count int) []int {
	var ids []int
	for i := range count {
		ids = append(ids, first+i)
	}
	return ids
}

func TestNewTellsHowManyCoresThereMayBe(t *testing.T) {
	for _, cpus := range []int{math.MinInt, -1 << 32, -64, -1, 0, 65, 66, 128, 1 << 32, 1<<32 + 1, math.MaxInt} {
		if r, why := runq.New(cpus); r != nil || why != api.ErrArg {
			t.Errorf("New(%d) = %v, %d, want nil, %d", cpus, r, why, api.ErrArg)
		}
	}
	for _, cpus := range []int{1, 2, 63, 64} {
		r := made(t, cpus)
		holds(t, "new", r, make([][]int, cpus)...)
		puts(t, r, cpus-1, 0, api.OK, 7)
		puts(t, r, cpus, 0, api.ErrRange, 8)
		picks(t, r, cpus-1, 7)
		picksNone(t, r, cpus, api.ErrRange)
	}
}

func TestRunqOfTheDocument(t *testing.T) {
	r := made(t, 2)
	puts(t, r, 0, 1, api.OK, 5)
	puts(t, r, 0, 2, api.OK, 6)
	picks(t, r, 0, 6)
	moves(t, r, 0, 1, 5, api.OK)
	holds(t, "moved", r, list(6), list(5))
	ranks(t, r, 1, 5)
}

func TestPut(t *testing.T) {
	r := made(t, 3)
	puts(t, r, 0, 0, api.OK, 1, 2)
	puts(t, r, 2, 7, api.OK, 3)
	puts(t, r, 0, 7, api.OK, 4)
	puts(t, r, 0, 0, api.OK, 5)
	puts(t, r, 2, 3, api.OK, 6)
	holds(t, "put", r, list(4, 1, 2, 5), nil, list(3, 6))
	ranks(t, r, 0, 1, 2, 5)
	ranks(t, r, 7, 3, 4)
	ranks(t, r, 3, 6)
	lacks(t, r, 0, 7, -1)
}

func TestPutThatIsRefused(t *testing.T) {
	r := made(t, 2)
	puts(t, r, 0, 3, api.OK, upto(100, 32)...)
	puts(t, r, 1, 4, api.OK, 5)
	check := func(what string) {
		t.Helper()
		holds(t, what, r, upto(100, 32), list(5))
		ranks(t, r, 3, upto(100, 32)...)
		ranks(t, r, 4, 5)
		lacks(t, r, 6)
	}
	for _, cpu := range append([]int{2, 3, 63}, noCores...) {
		// The core is told first, whatever the priority and the thing are.
		puts(t, r, cpu, 0, api.ErrRange, 6, 5, 100)
		puts(t, r, cpu, 8, api.ErrRange, 6, 5, 100)
		puts(t, r, cpu, -1, api.ErrRange, 6, 5, 100)
	}
	check("no core")
	for cpu := range 2 {
		// That it is on a core, this one or another, is told ahead of the priority and of the room.
		for _, prio := range append([]int{0, 3, 4, 7}, noPrios...) {
			puts(t, r, cpu, prio, api.ErrState, 5, 100, 131)
		}
		for _, prio := range noPrios {
			puts(t, r, cpu, prio, api.ErrArg, 6)
		}
	}
	for prio := range 8 {
		puts(t, r, 0, prio, api.ErrFull, 6, 0, -1)
	}
	check("refused")
	lacks(t, r, unlikely...)
	puts(t, r, 1, 0, api.OK, 6)
	answers(t, "Take", r.Take(110), api.OK)
	puts(t, r, 0, 0, api.OK, 110)
	puts(t, r, 0, 0, api.ErrFull, 7)
	holds(t, "full again", r, append(append(upto(100, 10), upto(111, 21)...), 110), list(5, 6))
}

func TestPick(t *testing.T) {
	r := made(t, 2)
	picksNone(t, r, 0, api.ErrEmpty)
	puts(t, r, 1, 2, api.OK, 9)
	picksNone(t, r, 0, api.ErrEmpty)
	picks(t, r, 1, 9, 9, 9)
	puts(t, r, 1, 2, api.OK, 8, 7)
	puts(t, r, 1, 1, api.OK, 4, 5)
	picks(t, r, 1, 9)
	holds(t, "picked", r, nil, list(8, 7, 9, 4, 5))
	picks(t, r, 1, 8, 7, 9, 8)
	holds(t, "picked more", r, nil, list(7, 9, 8, 4, 5))
	for _, id := range list(7, 8, 9) {
		answers(t, "Take", r.Take(id), api.OK)
	}
	picks(t, r, 1, 4, 5, 4)
	answers(t, "Take", r.Take(4), api.OK)
	answers(t, "Take", r.Take(5), api.OK)
	picksNone(t, r, 1, api.ErrEmpty)
	for _, cpu := range append([]int{2, 3, 63}, noCores...) {
		picksNone(t, r, cpu, api.ErrRange)
	}
}

// TestPicksRound: as many Picks as the greatest priority has things tell each of these once.
func TestPicksRound(t *testing.T) {
	for _, count := range []int{1, 2, 3, 29} {
		r := made(t, 2)
		puts(t, r, 0, 3, api.OK, 500, 501)
		puts(t, r, 0, 6, api.OK, upto(-3, count)...)
		puts(t, r, 1, 7, api.OK, 900, 901)
		picks(t, r, 0, upto(-3, count)...)
		holds(t, "once round", r, append(upto(-3, count), 500, 501), list(900, 901))
		picks(t, r, 0, upto(-3, count)...)
		picks(t, r, 1, 900)
		holds(t, "twice round", r, append(upto(-3, count), 500, 501), list(901, 900))
	}
}

func TestBack(t *testing.T) {
	r := made(t, 2)
	puts(t, r, 0, 4, api.OK, 1, 2, 3)
	puts(t, r, 1, 4, api.OK, 11, 12, 13)
	puts(t, r, 1, 6, api.OK, 14)
	answers(t, "Back", r.Back(11), api.OK)
	holds(t, "the first", r, list(1, 2, 3), list(14, 12, 13, 11))
	answers(t, "Back", r.Back(13), api.OK)
	holds(t, "the middle", r, list(1, 2, 3), list(14, 12, 11, 13))
	answers(t, "Back", r.Back(13), api.OK)
	answers(t, "Back", r.Back(14), api.OK)
	holds(t, "the last, and the only one", r, list(1, 2, 3), list(14, 12, 11, 13))
	answers(t, "Back", r.Back(1), api.OK)
	holds(t, "another core", r, list(2, 3, 1), list(14, 12, 11, 13))
	lacks(t, r, 4, 0, -1)
	ranks(t, r, 4, 1, 2, 3, 11, 12, 13)
	ranks(t, r, 6, 14)
}

func TestTake(t *testing.T) {
	r := made(t, 3)
	lacks(t, r, 1)
	puts(t, r, 0, 5, api.OK, 1, 2, 3)
	answers(t, "Take", r.Take(2), api.OK)
	lacks(t, r, 2)
	holds(t, "taken", r, list(1, 3), nil, nil)
	puts(t, r, 2, 1, api.OK, 2)
	ranks(t, r, 1, 2)
	holds(t, "on another core", r, list(1, 3), nil, list(2))
	puts(t, r, 0, 1, api.ErrState, 2)
	answers(t, "Take", r.Take(2), api.OK)
	puts(t, r, 0, 7, api.OK, 2)
	ranks(t, r, 7, 2)
	holds(t, "on its core again", r, list(2, 1, 3), nil, nil)
	for _, id := range list(1, 2, 3) {
		answers(t, "Take", r.Take(id), api.OK)
	}
	lacks(t, r, 1, 2, 3)
	holds(t, "all are out", r, nil, nil, nil)
}

func TestThingsOfAllNumbers(t *testing.T) {
	r := made(t, 2)
	lacks(t, r, unlikely...)
	puts(t, r, 1, 0, api.OK, unlikely...)
	holds(t, "put", r, nil, unlikely)
	picks(t, r, 1, unlikely...)
	puts(t, r, 0, 0, api.ErrState, unlikely...)
	for i := len(unlikely) - 1; i >= 0; i-- {
		moves(t, r, 1, 0, unlikely[i], api.OK)
	}
	turned := slices.Clone(unlikely)
	slices.Reverse(turned)
	holds(t, "moved", r, turned, nil)
	for _, id := range unlikely {
		answers(t, "Back", r.Back(id), api.OK)
	}
	holds(t, "back", r, unlikely, nil)
	for _, id := range unlikely {
		answers(t, "Take", r.Take(id), api.OK)
	}
	lacks(t, r, unlikely...)
}

// finds says which cores of a mask have most, and least.
func finds(t *testing.T, r *runq.Runq, of mask.Mask, busiest, idlest int, want api.Errno) {
	t.Helper()
	if cpu, why := r.Busiest(of); cpu != busiest || why != want {
		t.Fatalf("Busiest(%b) = %d, %d, want %d, %d", uint64(of), cpu, why, busiest, want)
	}
	if cpu, why := r.Idlest(of); cpu != idlest || why != want {
		t.Fatalf("Idlest(%b) = %d, %d, want %d, %d", uint64(of), cpu, why, idlest, want)
	}
}

func TestBusiestAndIdlest(t *testing.T) {
	r := made(t, 5)
	finds(t, r, mask.Upto(5), 0, 0, api.OK)
	finds(t, r, mask.Of(3, 4), 3, 3, api.OK)
	puts(t, r, 0, 0, api.OK, 1, 2)
	puts(t, r, 1, 7, api.OK, 11)
	puts(t, r, 2, 3, api.OK, 21, 22, 23)
	puts(t, r, 3, 1, api.OK, 31)
	puts(t, r, 4, 5, api.OK, 41, 42, 43)
	finds(t, r, mask.Upto(5), 2, 1, api.OK)
	finds(t, r, ^mask.Mask(0), 2, 1, api.OK)
	finds(t, r, mask.Of(0), 0, 0, api.OK)
	finds(t, r, mask.Of(4), 4, 4, api.OK)
	finds(t, r, mask.Of(0, 4), 4, 0, api.OK)
	finds(t, r, mask.Of(0, 3), 0, 3, api.OK)
	// Of several cores of one load it is the lowest one.
	finds(t, r, mask.Of(2, 4), 2, 2, api.OK)
	finds(t, r, mask.Of(1, 3), 1, 1, api.OK)
	finds(t, r, mask.Of(1, 2, 3, 4), 2, 1, api.OK)
	// Cores that are not there count for nothing.
	finds(t, r, mask.Of(3, 4, 5, 6, 63), 4, 3, api.OK)
	finds(t, r, mask.Of(1, 63), 1, 1, api.OK)
	finds(t, r, 0, 0, 0, api.ErrEmpty)
	finds(t, r, mask.Of(5), 0, 0, api.ErrEmpty)
	finds(t, r, ^mask.Upto(5), 0, 0, api.ErrEmpty)
	answers(t, "Take", r.Take(22), api.OK)
	answers(t, "Take", r.Take(31), api.OK)
	finds(t, r, mask.Upto(5), 4, 3, api.OK)
	holds(t, "looked at", r, list(1, 2), list(11), list(21, 23), nil, list(41, 42, 43))
}

func TestBusiestAndIdlestOfAllCores(t *testing.T) {
	r := made(t, 64)
	for cpu := range 64 {
		puts(t, r, cpu, 2, api.OK, 10*cpu, 10*cpu+1)
	}
	finds(t, r, ^mask.Mask(0), 0, 0, api.OK)
	puts(t, r, 63, 2, api.OK, 5000)
	answers(t, "Take", r.Take(620), api.OK)
	finds(t, r, ^mask.Mask(0), 63, 62, api.OK)
	finds(t, r, mask.Of(62, 63), 63, 62, api.OK)
	finds(t, r, mask.Of(63), 63, 63, api.OK)
}

func TestMove(t *testing.T) {
	r := made(t, 3)
	puts(t, r, 0, 5, api.OK, 1, 2)
	puts(t, r, 0, 3, api.OK, 3, 4)
	puts(t, r, 1, 3, api.OK, 11)
	puts(t, r, 1, 0, api.OK, 12)
	puts(t, r, 1, 6, api.OK, 13)
	// The last one of the list is the last one of the least priority.
	moves(t, r, 0, 1, 4, api.OK)
	holds(t, "once", r, list(1, 2, 3), list(13, 11, 4, 12), nil)
	moves(t, r, 0, 1, 3, api.OK)
	holds(t, "twice", r, list(1, 2), list(13, 11, 4, 3, 12), nil)
	moves(t, r, 0, 2, 2, api.OK)
	moves(t, r, 0, 1, 1, api.OK)
	holds(t, "all", r, nil, list(13, 1, 11, 4, 3, 12), list(2))
	moves(t, r, 0, 1, 0, api.ErrEmpty)
	moves(t, r, 1, 0, 12, api.OK)
	holds(t, "back", r, list(12), list(13, 1, 11, 4, 3), list(2))
	ranks(t, r, 0, 12)
	ranks(t, r, 3, 3, 4, 11)
	ranks(t, r, 5, 1, 2)
	ranks(t, r, 6, 13)
	picks(t, r, 1, 13)
	answers(t, "Back", r.Back(11), api.OK)
	holds(t, "on its new core", r, list(12), list(13, 1, 4, 3, 11), list(2))
}

func TestMoveThatIsRefused(t *testing.T) {
	r := made(t, 3)
	puts(t, r, 0, 4, api.OK, upto(100, 32)...)
	puts(t, r, 1, 2, api.OK, 5, 6)
	check := func(what string) {
		t.Helper()
		holds(t, what, r, upto(100, 32), list(5, 6), nil)
		ranks(t, r, 2, 5, 6)
	}
	for _, none := range append([]int{3, 4, 63}, noCores...) {
		for cpu := range 3 {
			moves(t, r, none, cpu, 0, api.ErrRange)
			moves(t, r, cpu, none, 0, api.ErrRange)
		}
		// That there is no such core is told ahead of that they are one.
		moves(t, r, none, none, 0, api.ErrRange)
	}
	check("no core")
	for cpu := range 3 {
		// That they are one is told ahead of that there is nothing, and that there is no room.
		moves(t, r, cpu, cpu, 0, api.ErrArg)
	}
	check("one core")
	moves(t, r, 2, 1, 0, api.ErrEmpty)
	// That there is nothing is told ahead of that there is no room.
	moves(t, r, 2, 0, 0, api.ErrEmpty)
	check("nothing")
	moves(t, r, 1, 0, 0, api.ErrFull)
	check("no room")
	answers(t, "Take", r.Take(100), api.OK)
	moves(t, r, 1, 0, 6, api.OK)
	moves(t, r, 1, 0, 0, api.ErrFull)
	holds(t, "one more", r, append(upto(101, 31), 6), list(5), nil)
}

// TestManyMoves: how many things there are, and their priorities, stay.
func TestManyMoves(t *testing.T) {
	state := uint64(3)
	below := func(n int) int {
		state = state*6364136223846793005 + 1442695040888963407
		return int((state >> 33) % uint64(n))
	}
	r := made(t, 5)
	for id := range 70 {
		puts(t, r, id%5, id%8, api.OK, id-9)
	}
	for range 3000 {
		from, to := below(7)-1, below(7)-1
		r.Move(from, to)
		count := 0
		for cpu := range 5 {
			count += r.Load(cpu)
		}
		if count != 70 {
			t.Fatalf("Move(%d, %d): there are %d things", from, to, count)
		}
	}
	for id := range 70 {
		ranks(t, r, id%8, id-9)
	}
}

func TestListIsTheCallersOwn(t *testing.T) {
	r := made(t, 2)
	puts(t, r, 0, 4, api.OK, 1, 2)
	puts(t, r, 0, 2, api.OK, 3)
	one, two := r.List(0), r.List(0)
	for i := range one {
		one[i] = 99
	}
	_ = append(one[:1], 98, 97, 96)
	_ = append(two, 95)
	if !slices.Equal(two, list(1, 2, 3)) {
		t.Errorf("another List is %v after one was written into", two)
	}
	puts(t, r, 0, 2, api.OK, 5)
	holds(t, "written into", r, list(1, 2, 3, 5), nil)
}

func TestRunqsShareNothing(t *testing.T) {
	one, two := made(t, 2), made(t, 2)
	puts(t, one, 0, 3, api.OK, 1, 2)
	puts(t, two, 1, 5, api.OK, 2, 7)
	answers(t, "Take", two.Take(2), api.OK)
	moves(t, two, 1, 0, 7, api.OK)
	picks(t, one, 0, 1)
	holds(t, "one", one, list(2, 1), nil)
	holds(t, "two", two, list(7), nil)
	lacks(t, one, 7)
	lacks(t, two, 1, 2)
}

func TestNilRunq(t *testing.T) {
	var r *runq.Runq
	for _, cpu := range append([]int{0, 1, 63}, noCores...) {
		puts(t, r, cpu, 0, api.ErrNil, 0, 1)
		puts(t, r, cpu, 8, api.ErrNil, 0, 1)
		picksNone(t, r, cpu, api.ErrNil)
		moves(t, r, cpu, 0, 0, api.ErrNil)
		moves(t, r, cpu, 1, 0, api.ErrNil)
	}
	for _, id := range unlikely {
		answers(t, "Back", r.Back(id), api.ErrNil)
		answers(t, "Take", r.Take(id), api.ErrNil)
		if c, on := r.Where(id); c != 0 || on {
			t.Errorf("Where(%d) = %d, %v", id, c, on)
		}
		if p, on := r.Prio(id); p != 0 || on {
			t.Errorf("Prio(%d) = %d, %v", id, p, on)
		}
	}
	for _, of := range []mask.Mask{0, 1, ^mask.Mask(0)} {
		finds(t, r, of, 0, 0, api.ErrNil)
	}
	holds(t, "nil", r)
}

// TestRunqThatNewDidNotMake: nothing panics, whatever was handed in.
func TestRunqThatNewDidNotMake(t *testing.T) {
	r := &runq.Runq{}
	puts(t, r, 0, 0, api.ErrRange, 0, 1)
	picksNone(t, r, 0, api.ErrRange)
	moves(t, r, 0, 1, 0, api.ErrRange)
	finds(t, r, ^mask.Mask(0), 0, 0, api.ErrEmpty)
	lacks(t, r, unlikely...)
	holds(t, "bare", r)
}

// thing is one of the plain runq: where it is, and its priority.
type thing struct{ id, cpu, prio int }

// plain is what a runq must be: its things in the order in which they came to the end of their priorities.
type plain struct {
	cpus   int
	things []thing
}

func (p *plain) isCore(cpu int) bool { return cpu >= 0 && cpu < p.cpus }

func (p *plain) find(id int) int {
	return slices.IndexFunc(p.things, func(x thing) bool { return x.id == id })
}

func (p *plain) list(cpu int) []int {
	var ids []int
	for prio := 7; prio >= 0; prio-- {
		for _, x := range p.things {
			if x.cpu == cpu && x.prio == prio {
				ids = append(ids, x.id)
			}
		}
	}
	return ids
}

func (p *plain) put(cpu, prio, id int) api.Errno {
	switch {
	case !p.isCore(cpu):
		return api.ErrRange
	case p.find(id) >= 0:
		return api.ErrState
	case prio < 0 || prio > 7:
		return api.ErrArg
	case len(p.list(cpu)) == 32:
		return api.ErrFull
	}
	p.things = append(p.things, thing{id, cpu, prio})
	return api.OK
}

// out takes a thing out, and tells it.
func (p *plain) out(id int) (thing, api.Errno) {
	i := p.find(id)
	if i < 0 {
		return thing{}, api.ErrNone
	}
	x := p.things[i]
	p.things = slices.Delete(p.things, i, i+1)
	return x, api.OK
}

func (p *plain) back(id int) api.Errno {
	x, why := p.out(id)
	if why == api.OK {
		p.things = append(p.things, x)
	}
	return why
}

func (p *plain) pick(cpu int) (int, api.Errno) {
	if !p.isCore(cpu) {
		return 0, api.ErrRange
	}
	l := p.list(cpu)
	if len(l) == 0 {
		return 0, api.ErrEmpty
	}
	return l[0], p.back(l[0])
}

func (p *plain) move(from, to int) (int, api.Errno) {
	switch {
	case !p.isCore(from) || !p.isCore(to):
		return 0, api.ErrRange
	case from == to:
		return 0, api.ErrArg
	}
	l := p.list(from)
	if len(l) == 0 {
		return 0, api.ErrEmpty
	}
	if len(p.list(to)) == 32 {
		return 0, api.ErrFull
	}
	x, why := p.out(l[len(l)-1])
	x.cpu = to
	p.things = append(p.things, x)
	return x.id, why
}

// loads is the busiest and the idlest core of a mask, and whether there is one.
func (p *plain) loads(of mask.Mask) (busiest, idlest int, why api.Errno) {
	why = api.ErrEmpty
	for cpu := p.cpus - 1; cpu >= 0; cpu-- {
		if !of.Has(cpu) {
			continue
		}
		load := len(p.list(cpu))
		if why != api.OK || load >= len(p.list(busiest)) {
			busiest = cpu
		}
		if why != api.OK || load <= len(p.list(idlest)) {
			idlest = cpu
		}
		why = api.OK
	}
	return
}

func (p *plain) holds(t *testing.T, r *runq.Runq) {
	t.Helper()
	var lists [][]int
	for cpu := range p.cpus {
		lists = append(lists, p.list(cpu))
	}
	holds(t, "mixed", r, lists...)
	for _, x := range p.things {
		ranks(t, r, x.prio, x.id)
	}
}

// TestMixedRuns holds long runs against the plain runq.
func TestMixedRuns(t *testing.T) {
	state := uint64(5)
	below := func(n int) int {
		state = state*6364136223846793005 + 1442695040888963407
		return int((state >> 33) % uint64(n))
	}
	for _, cpus := range []int{1, 2, 3, 7} {
		r, p := made(t, cpus), &plain{cpus: cpus}
		for step := range 3000 {
			cpu, other, id := below(cpus+2)-1, below(cpus+1), below(36*cpus)-2
			var got, want, gotId, wantId = api.OK, api.OK, 0, 0
			switch below(12) {
			case 0, 1, 2, 3, 4:
				prio := below(10) - 1
				got, want = r.Put(cpu, prio, id), p.put(cpu, prio, id)
			case 5, 6:
				gotId, got = r.Pick(cpu)
				wantId, want = p.pick(cpu)
			case 7:
				got, want = r.Back(id), p.back(id)
			case 8:
				got = r.Take(id)
				_, want = p.out(id)
			case 9:
				of := mask.Mask(state >> 20)
				busiest, idlest, why := p.loads(of)
				finds(t, r, of, busiest, idlest, why)
			default:
				gotId, got = r.Move(cpu, other)
				wantId, want = p.move(cpu, other)
			}
			if got != want || gotId != wantId {
				t.Fatalf("%d cores, step %d: %d, %d, want %d, %d", cpus, step, gotId, got, wantId, want)
			}
			p.holds(t, r)
		}
	}
}
