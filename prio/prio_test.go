package prio_test

import (
	"math"
	"slices"
	"testing"

	"davit/api"
	"davit/prio"
)

// noPrios are numbers that are no priorities, unlikely ones are things as good as any.
var (
	noPrios  = []int{math.MinInt, -1 << 32, -8, -2, -1, 8, 9, 15, 16, 1 << 32, 1<<32 + 1, math.MaxInt}
	unlikely = []int{0, -1, math.MinInt, math.MaxInt, 1 << 32, -1 << 32, 1<<32 + 1}
)

func made(t *testing.T, most int) *prio.Queue {
	t.Helper()
	q, why := prio.New(most)
	if why != api.OK || q == nil {
		t.Fatalf("New(%d) = %v, %d", most, q, why)
	}
	return q
}

// pushes pushes things of one priority.
func pushes(t *testing.T, q *prio.Queue, level int, want api.Errno, ids ...int) {
	t.Helper()
	for _, id := range ids {
		if why := q.Push(level, id); why != want {
			t.Fatalf("Push(%d, %d) = %d, want %d", level, id, why, want)
		}
	}
}

func answers(t *testing.T, what string, why, want api.Errno) {
	t.Helper()
	if why != want {
		t.Fatalf("%s = %d, want %d", what, why, want)
	}
}

// level is the things of one priority, in order.
type level struct {
	prio int
	ids  []int
}

func at(prio int, ids ...int) level { return level{prio, ids} }

// holds says that the queue is as it must be, by each call that only looks; the levels fall.
func holds(t *testing.T, what string, q *prio.Queue, levels ...level) {
	t.Helper()
	var all []int
	for _, l := range levels {
		all = append(all, l.ids...)
		for _, id := range l.ids {
			if p, in := q.Prio(id); p != l.prio || !in {
				t.Fatalf("%s: Prio(%d) = %d, %v, want %d, true", what, id, p, in, l.prio)
			}
		}
	}
	if l := q.List(); !slices.Equal(l, all) {
		t.Fatalf("%s: List() = %v, want %v", what, l, all)
	}
	if q.Len() != len(all) {
		t.Fatalf("%s: Len() = %d, want %d", what, q.Len(), len(all))
	}
	top, why := q.Top()
	if len(all) == 0 && (top != 0 || why != api.ErrEmpty) {
		t.Fatalf("%s: Top() = %d, %d, want 0, %d", what, top, why, api.ErrEmpty)
	}
	if len(all) > 0 && (top != all[0] || why != api.OK) {
		t.Fatalf("%s: Top() = %d, %d, want %d, %d", what, top, why, all[0], api.OK)
	}
}

// lacks says that things are not in the queue.
func lacks(t *testing.T, q *prio.Queue, ids ...int) {
	t.Helper()
	for _, id := range ids {
		if p, in := q.Prio(id); p != 0 || in {
			t.Fatalf("Prio(%d) = %d, %v, want 0, false", id, p, in)
		}
		answers(t, "Drop", q.Drop(id), api.ErrNone)
		answers(t, "Back", q.Back(id), api.ErrNone)
	}
}

func TestNewTellsWhichQueuesThereMayBe(t *testing.T) {
	for _, most := range []int{math.MinInt, -1 << 32, -1024, -1, 0, 1025, 1026, 2048, 1 << 32, 1<<32 + 1, math.MaxInt} {
		if q, why := prio.New(most); q != nil || why != api.ErrArg {
			t.Errorf("New(%d) = %v, %d, want nil, %d", most, q, why, api.ErrArg)
		}
	}
	for _, most := range []int{1, 2, 8, 9, 1023, 1024} {
		q := made(t, most)
		holds(t, "new", q)
		var ids []int
		for id := range most {
			ids = append(ids, id)
		}
		pushes(t, q, 4, api.OK, ids...)
		for p := range 8 {
			pushes(t, q, p, api.ErrFull, most)
		}
		holds(t, "full", q, at(4, ids...))
	}
}

func TestQueueOfTheDocument(t *testing.T) {
	q := made(t, 8)
	pushes(t, q, 1, api.OK, 5)
	pushes(t, q, 3, api.OK, 6, 7)
	holds(t, "pushed", q, at(3, 6, 7), at(1, 5))
	answers(t, "Turn", q.Turn(), api.OK)
	holds(t, "turned", q, at(3, 7, 6), at(1, 5))
}

func TestPushAtEachPriority(t *testing.T) {
	q := made(t, 16)
	for p := range 8 {
		pushes(t, q, p, api.OK, 10+p, 20+p)
	}
	holds(t, "each", q, at(7, 17, 27), at(6, 16, 26), at(5, 15, 25), at(4, 14, 24), at(3, 13, 23), at(2, 12, 22), at(1, 11, 21), at(0, 10, 20))
	back := made(t, 3)
	pushes(t, back, 7, api.OK, 1)
	pushes(t, back, 0, api.OK, 2)
	pushes(t, back, 7, api.OK, 3)
	holds(t, "the ends", back, at(7, 1, 3), at(0, 2))
}

func TestPushThatIsRefused(t *testing.T) {
	q := made(t, 3)
	pushes(t, q, 2, api.OK, 5)
	pushes(t, q, 6, api.OK, 6)
	check := func(what string) { t.Helper(); holds(t, what, q, at(6, 6), at(2, 5)); lacks(t, q, 7) }
	for _, p := range noPrios {
		// The priority is told first, whether the thing is there or not.
		pushes(t, q, p, api.ErrArg, 7, 5, 6, 0)
	}
	check("no priority")
	for p := range 8 {
		pushes(t, q, p, api.ErrState, 5, 6)
	}
	check("it is there")
	pushes(t, q, 2, api.OK, 8)
	for p := range 8 {
		pushes(t, q, p, api.ErrFull, 7, 0, -1)
		// That it is there is told ahead of that there is no room.
		pushes(t, q, p, api.ErrState, 5, 6, 8)
	}
	for _, p := range noPrios {
		pushes(t, q, p, api.ErrArg, 7, 5, 6, 8)
	}
	holds(t, "full", q, at(6, 6), at(2, 5, 8))
	answers(t, "Drop", q.Drop(6), api.OK)
	pushes(t, q, 0, api.OK, 7)
	pushes(t, q, 0, api.ErrFull, 6)
	holds(t, "full again", q, at(2, 5, 8), at(0, 7))
}

func TestTurn(t *testing.T) {
	q := made(t, 8)
	answers(t, "Turn", q.Turn(), api.ErrEmpty)
	holds(t, "empty", q)
	pushes(t, q, 0, api.OK, 3, 1, 2)
	answers(t, "Turn", q.Turn(), api.OK)
	holds(t, "one priority", q, at(0, 1, 2, 3))
	pushes(t, q, 5, api.OK, 9)
	for range 3 {
		answers(t, "Turn", q.Turn(), api.OK)
		holds(t, "one of the greatest", q, at(5, 9), at(0, 1, 2, 3))
	}
	pushes(t, q, 4, api.OK, 7, 8)
	pushes(t, q, 5, api.OK, 4, 6)
	answers(t, "Turn", q.Turn(), api.OK)
	holds(t, "many of the greatest", q, at(5, 4, 6, 9), at(4, 7, 8), at(0, 1, 2, 3))
	for _, id := range []int{4, 6, 9} {
		answers(t, "Drop", q.Drop(id), api.OK)
	}
	answers(t, "Turn", q.Turn(), api.OK)
	holds(t, "the next priority", q, at(4, 8, 7), at(0, 1, 2, 3))
}

// TestTurnsRound: as many Turns as the greatest priority has things tell each of these once, and leave all as it was.
func TestTurnsRound(t *testing.T) {
	for _, most := range []int{1, 2, 3, 7, 500} {
		q := made(t, 1024)
		var ids []int
		for i := range most {
			ids = append(ids, i*3-most)
		}
		pushes(t, q, 6, api.OK, ids...)
		pushes(t, q, 5, api.OK, 5000, 6000)
		var told []int
		for range ids {
			id, why := q.Top()
			answers(t, "Top", why, api.OK)
			answers(t, "Turn", q.Turn(), api.OK)
			told = append(told, id)
		}
		if !slices.Equal(told, ids) {
			t.Errorf("%d Turns told %v, want %v", most, told, ids)
		}
		holds(t, "round", q, at(6, ids...), at(5, 5000, 6000))
	}
}

func TestBack(t *testing.T) {
	for _, run := range []struct {
		id   int
		want []int
	}{{1, []int{2, 3, 1}}, {2, []int{1, 3, 2}}, {3, []int{1, 2, 3}}} {
		q := made(t, 5)
		pushes(t, q, 4, api.OK, 1, 2, 3)
		pushes(t, q, 7, api.OK, 8)
		pushes(t, q, 2, api.OK, 9)
		answers(t, "Back", q.Back(run.id), api.OK)
		holds(t, "back", q, at(7, 8), at(4, run.want...), at(2, 9))
		answers(t, "Back", q.Back(8), api.OK)
		answers(t, "Back", q.Back(9), api.OK)
		holds(t, "the only ones", q, at(7, 8), at(4, run.want...), at(2, 9))
		lacks(t, q, 0, 4, -1)
		holds(t, "not there", q, at(7, 8), at(4, run.want...), at(2, 9))
	}
}

// TestBackInFullQueue: a thing that goes back needs no room of its own.
func TestBackInFullQueue(t *testing.T) {
	q := made(t, 1)
	pushes(t, q, 3, api.OK, 5)
	answers(t, "Back", q.Back(5), api.OK)
	answers(t, "Turn", q.Turn(), api.OK)
	holds(t, "one", q, at(3, 5))
	full := made(t, 3)
	pushes(t, full, 0, api.OK, 1, 2)
	pushes(t, full, 7, api.OK, 3)
	answers(t, "Back", full.Back(1), api.OK)
	holds(t, "three", full, at(7, 3), at(0, 2, 1))
}

func TestDrop(t *testing.T) {
	q := made(t, 6)
	lacks(t, q, 1, 0)
	pushes(t, q, 3, api.OK, 1, 2, 3, 4)
	pushes(t, q, 5, api.OK, 5)
	answers(t, "Drop", q.Drop(3), api.OK)
	holds(t, "the middle", q, at(5, 5), at(3, 1, 2, 4))
	lacks(t, q, 3)
	answers(t, "Drop", q.Drop(1), api.OK)
	answers(t, "Drop", q.Drop(4), api.OK)
	holds(t, "the ends", q, at(5, 5), at(3, 2))
	lacks(t, q, 1, 3, 4)
	answers(t, "Drop", q.Drop(2), api.OK)
	holds(t, "the only one of its priority", q, at(5, 5))
	pushes(t, q, 7, api.OK, 2)
	holds(t, "at another priority", q, at(7, 2), at(5, 5))
	pushes(t, q, 3, api.ErrState, 2)
	pushes(t, q, 3, api.OK, 1)
	answers(t, "Drop", q.Drop(2), api.OK)
	answers(t, "Drop", q.Drop(5), api.OK)
	answers(t, "Drop", q.Drop(1), api.OK)
	holds(t, "empty", q)
	answers(t, "Turn", q.Turn(), api.ErrEmpty)
	pushes(t, q, 0, api.OK, 5)
	holds(t, "begun again", q, at(0, 5))
}

func TestThingsOfAllNumbers(t *testing.T) {
	q := made(t, 2*len(unlikely))
	lacks(t, q, unlikely...)
	pushes(t, q, 0, api.OK, unlikely...)
	holds(t, "pushed", q, at(0, unlikely...))
	pushes(t, q, 1, api.ErrState, unlikely...)
	for _, id := range unlikely {
		answers(t, "Back", q.Back(id), api.OK)
	}
	holds(t, "round", q, at(0, unlikely...))
	answers(t, "Turn", q.Turn(), api.OK)
	holds(t, "turned", q, at(0, append(slices.Clone(unlikely[1:]), 0)...))
	for _, id := range unlikely {
		answers(t, "Drop", q.Drop(id), api.OK)
	}
	holds(t, "dropped", q)
	lacks(t, q, unlikely...)
}

func TestListIsTheCallersOwn(t *testing.T) {
	q := made(t, 8)
	pushes(t, q, 4, api.OK, 1, 2)
	pushes(t, q, 2, api.OK, 3)
	one, two := q.List(), q.List()
	for i := range one {
		one[i] = 99
	}
	one = append(one[:1], 98, 97, 96, 95)
	if !slices.Equal(two, []int{1, 2, 3}) {
		t.Errorf("another List is %v after one was written into", two)
	}
	holds(t, "written into", q, at(4, 1, 2), at(2, 3))
	_ = append(two, 94)
	pushes(t, q, 2, api.OK, 5)
	holds(t, "appended to", q, at(4, 1, 2), at(2, 3, 5))
	if !slices.Equal(one, []int{99, 98, 97, 96, 95}) {
		t.Errorf("the caller's list is %v", one)
	}
}

func TestQueuesShareNothing(t *testing.T) {
	one, two := made(t, 4), made(t, 4)
	pushes(t, one, 3, api.OK, 1, 2)
	pushes(t, two, 5, api.OK, 2, 7)
	answers(t, "Drop", two.Drop(2), api.OK)
	answers(t, "Turn", one.Turn(), api.OK)
	holds(t, "one", one, at(3, 2, 1))
	holds(t, "two", two, at(5, 7))
}

// looksBare says that a queue answers as one without things.
func looksBare(t *testing.T, q *prio.Queue) {
	t.Helper()
	if q.Len() != 0 || len(q.List()) != 0 {
		t.Errorf("Len() = %d, List() = %v", q.Len(), q.List())
	}
	if p, in := q.Prio(0); p != 0 || in {
		t.Errorf("Prio(0) = %d, %v", p, in)
	}
}

func TestNilQueue(t *testing.T) {
	var q *prio.Queue
	for _, p := range append([]int{0, 7}, noPrios...) {
		pushes(t, q, p, api.ErrNil, 0, 1, -1)
	}
	if top, why := q.Top(); top != 0 || why != api.ErrNil {
		t.Errorf("Top() = %d, %d", top, why)
	}
	for _, id := range unlikely {
		answers(t, "Back", q.Back(id), api.ErrNil)
		answers(t, "Drop", q.Drop(id), api.ErrNil)
	}
	answers(t, "Turn", q.Turn(), api.ErrNil)
	looksBare(t, q)
}

// TestQueueThatNewDidNotMake: nothing panics, whatever was handed in.
func TestQueueThatNewDidNotMake(t *testing.T) {
	q := &prio.Queue{}
	pushes(t, q, 3, api.ErrFull, 0, 1)
	pushes(t, q, 8, api.ErrArg, 0)
	if top, why := q.Top(); top != 0 || why != api.ErrEmpty {
		t.Errorf("Top() = %d, %d", top, why)
	}
	answers(t, "Turn", q.Turn(), api.ErrEmpty)
	lacks(t, q, unlikely...)
	looksBare(t, q)
}

// plain is what a queue must be: its things in the order in which they came, with their priorities.
type plain struct {
	most int
	ids  []int
	prio map[int]int
}

func (p *plain) push(prio, id int) api.Errno {
	if prio < 0 || prio > 7 {
		return api.ErrArg
	}
	if slices.Contains(p.ids, id) {
		return api.ErrState
	}
	if len(p.ids) == p.most {
		return api.ErrFull
	}
	p.ids = append(p.ids, id)
	p.prio[id] = prio
	return api.OK
}

func (p *plain) drop(id int) api.Errno {
	i := slices.Index(p.ids, id)
	if i < 0 {
		return api.ErrNone
	}
	p.ids = slices.Delete(p.ids, i, i+1)
	return api.OK
}

func (p *plain) back(id int) api.Errno {
	if why := p.drop(id); why != api.OK {
		return why
	}
	p.ids = append(p.ids, id)
	return api.OK
}

func (p *plain) levels() []level {
	var all []level
	for prio := 7; prio >= 0; prio-- {
		one := level{prio: prio}
		for _, id := range p.ids {
			if p.prio[id] == prio {
				one.ids = append(one.ids, id)
			}
		}
		all = append(all, one)
	}
	return all
}

func (p *plain) turn() api.Errno {
	for _, one := range p.levels() {
		if len(one.ids) > 0 {
			return p.back(one.ids[0])
		}
	}
	return api.ErrEmpty
}

// TestMixedRuns holds long runs against the plain queue.
func TestMixedRuns(t *testing.T) {
	state := uint64(9)
	below := func(n int) int {
		state = state*6364136223846793005 + 1442695040888963407
		return int((state >> 33) % uint64(n))
	}
	for _, most := range []int{1, 2, 5, 12, 40} {
		q, p := made(t, most), &plain{most: most, prio: make(map[int]int)}
		for step := range 4000 {
			id := below(most+most/2+2) - 2
			var got, want api.Errno
			switch below(8) {
			case 0, 1, 2, 3:
				prio := below(10) - 1
				got, want = q.Push(prio, id), p.push(prio, id)
			case 4, 5:
				got, want = q.Turn(), p.turn()
			case 6:
				got, want = q.Back(id), p.back(id)
			case 7:
				got, want = q.Drop(id), p.drop(id)
			}
			if got != want {
				t.Fatalf("for %d, step %d: %d, want %d", most, step, got, want)
			}
			holds(t, "mixed", q, p.levels()...)
		}
	}
}
