package fifo_test

import (
	"math"
	"slices"
	"testing"

	"davit/api"
	"davit/fifo"
)

// made is a queue for most numbers with these in it.
func made(t *testing.T, most int, numbers ...int) *fifo.Queue {
	t.Helper()
	q, why := fifo.New(most)
	if why != api.OK || q == nil {
		t.Fatalf("New(%d) = %v, %d", most, q, why)
	}
	for _, n := range numbers {
		if why := q.Push(n); why != api.OK {
			t.Fatalf("Push(%d) = %d", n, why)
		}
	}
	return q
}

// holds says that the queue is as it must be, by each call that only looks.
func holds(t *testing.T, what string, q *fifo.Queue, most int, want ...int) {
	t.Helper()
	if l := q.List(); !slices.Equal(l, want) {
		t.Fatalf("%s: List() = %v, want %v", what, l, want)
	}
	if q.Len() != len(want) || q.Cap() != most {
		t.Fatalf("%s: Len() = %d, Cap() = %d, want %d, %d", what, q.Len(), q.Cap(), len(want), most)
	}
	for _, n := range want {
		if !q.Has(n) {
			t.Fatalf("%s: Has(%d) = false", what, n)
		}
	}
	n, why := q.Front()
	if len(want) == 0 && (n != 0 || why != api.ErrEmpty) {
		t.Fatalf("%s: Front() = %d, %d, want 0, %d", what, n, why, api.ErrEmpty)
	}
	if len(want) > 0 && (n != want[0] || why != api.OK) {
		t.Fatalf("%s: Front() = %d, %d, want %d", what, n, why, want[0])
	}
}

func pops(t *testing.T, q *fifo.Queue, want int, wantWhy api.Errno) {
	t.Helper()
	if n, why := q.Pop(); n != want || why != wantWhy {
		t.Fatalf("Pop() = %d, %d, want %d, %d", n, why, want, wantWhy)
	}
}

func TestNewTellsWhichSizesThereAre(t *testing.T) {
	for _, most := range []int{math.MinInt, -1025, -1024, -1, 0, 1025, 1026, 2048, 1 << 32, 1<<32 + 1, math.MaxInt} {
		if q, why := fifo.New(most); q != nil || why != api.ErrArg {
			t.Errorf("New(%d) = %v, %d, want nil, %d", most, q, why, api.ErrArg)
		}
	}
	for _, most := range []int{1, 2, 3, 63, 64, 65, 1023, 1024} {
		q := made(t, most)
		holds(t, "new", q, most)
		pops(t, q, 0, api.ErrEmpty)
		if why := q.Turn(); why != api.ErrEmpty {
			t.Errorf("Turn() of an empty one = %d", why)
		}
		if why := q.Drop(0); why != api.ErrNone {
			t.Errorf("Drop(0) of an empty one = %d", why)
		}
		if q.Has(0) {
			t.Errorf("an empty one has 0")
		}
		holds(t, "refused", q, most)
	}
}

func TestPushFillsToTheLast(t *testing.T) {
	for _, most := range []int{1, 2, 3, 64, 1023, 1024} {
		q := made(t, most)
		want := []int{}
		for n := range most {
			if why := q.Push(-n); why != api.OK {
				t.Fatalf("of %d: Push(%d) = %d", most, -n, why)
			}
			want = append(want, -n)
			holds(t, "filled", q, most, want...)
		}
		if why := q.Push(1); why != api.ErrFull {
			t.Errorf("of %d: Push to a full one = %d", most, why)
		}
		for _, n := range want {
			if why := q.Push(n); why != api.ErrState {
				t.Errorf("of %d: Push(%d), which is in the full one = %d", most, n, why)
			}
		}
		holds(t, "refused", q, most, want...)
		for k, n := range want {
			pops(t, q, n, api.OK)
			holds(t, "popped", q, most, want[k+1:]...)
		}
		pops(t, q, 0, api.ErrEmpty)
	}
}

func TestPushRefusesWhatIsInIt(t *testing.T) {
	q := made(t, 4, 5, 7)
	for _, n := range []int{5, 7} {
		if why := q.Push(n); why != api.ErrState {
			t.Errorf("Push(%d) = %d, want %d", n, why, api.ErrState)
		}
	}
	holds(t, "refused", q, 4, 5, 7)
	pops(t, q, 5, api.OK)
	if q.Has(5) {
		t.Error("what was popped is still there")
	}
	if why := q.Push(5); why != api.OK {
		t.Errorf("Push of what was popped = %d", why)
	}
	holds(t, "pushed again", q, 4, 7, 5)
	if why := q.Drop(7); why != api.OK || q.Has(7) {
		t.Errorf("Drop(7) = %d, Has %v", why, q.Has(7))
	}
	if why := q.Push(7); why != api.OK {
		t.Errorf("Push of what was dropped = %d", why)
	}
	holds(t, "pushed again", q, 4, 5, 7)
}

func TestNumbersOfAnySize(t *testing.T) {
	numbers := []int{math.MaxInt, 0, math.MinInt, -1, 1, math.MinInt + 1, math.MaxInt - 1, 1 << 32, -1 << 32, 1024, 1025}
	q := made(t, len(numbers), numbers...)
	holds(t, "pushed", q, len(numbers), numbers...)
	for _, n := range []int{2, -2, 1 << 31, 1<<32 + 1, 1<<62 + 1} {
		if q.Has(n) {
			t.Errorf("Has(%d) = true", n)
		}
		if why := q.Drop(n); why != api.ErrNone {
			t.Errorf("Drop(%d) = %d", n, why)
		}
		if why := q.Push(n); why != api.ErrFull {
			t.Errorf("Push(%d) = %d", n, why)
		}
	}
	holds(t, "refused", q, len(numbers), numbers...)
	for _, n := range numbers {
		pops(t, q, n, api.OK)
	}
}

// TestDropAtEachPlace drops each one of each length of queue, at each place in the ring.
func TestDropAtEachPlace(t *testing.T) {
	const most = 5
	for start := range most {
		for count := range most + 1 {
			for gone := range count {
				q := goneRound(t, most, start)
				want := []int{}
				for n := range count {
					q.Push(10 + n)
					want = append(want, 10+n)
				}
				holds(t, "pushed", q, most, want...)
				if why := q.Drop(99); why != api.ErrNone {
					t.Fatalf("Drop(99) = %d", why)
				}
				holds(t, "nothing to drop", q, most, want...)
				if why := q.Drop(10 + gone); why != api.OK {
					t.Fatalf("Drop(%d) = %d", 10+gone, why)
				}
				want = slices.Delete(want, gone, gone+1)
				holds(t, "dropped", q, most, want...)
				if why := q.Drop(10 + gone); why != api.ErrNone || q.Has(10+gone) {
					t.Fatalf("Drop(%d) again = %d", 10+gone, why)
				}
				for n := count; n < most+1; n++ {
					q.Push(20 + n)
					want = append(want, 20+n)
				}
				holds(t, "filled again", q, most, want...)
			}
		}
	}
}

// goneRound is an empty queue whose first number will stand at start in the ring.
func goneRound(t *testing.T, most, start int) *fifo.Queue {
	t.Helper()
	q := made(t, most)
	for n := range start {
		q.Push(n)
		pops(t, q, n, api.OK)
	}
	return q
}

func TestTurn(t *testing.T) {
	q := made(t, 3, 5, 7)
	if why := q.Turn(); why != api.OK {
		t.Errorf("Turn() = %d", why)
	}
	holds(t, "turned", q, 3, 7, 5)
	one := made(t, 1, -4)
	if why := one.Turn(); why != api.OK {
		t.Errorf("Turn() of one = %d", why)
	}
	holds(t, "turned", one, 1, -4)
}

// TestTurnsAsManyAsThereAre goes over each length and each place in the ring, full queues too.
func TestTurnsAsManyAsThereAre(t *testing.T) {
	for _, most := range []int{1, 2, 3, 7} {
		for start := range most {
			for count := range most + 1 {
				q := goneRound(t, most, start)
				want := []int{}
				for n := range count {
					q.Push(100 - n)
					want = append(want, 100-n)
				}
				was := q.List()
				for range count {
					if why := q.Turn(); why != api.OK {
						t.Fatalf("Turn() = %d", why)
					}
					want = append(want[1:], want[0])
					holds(t, "turned", q, most, want...)
				}
				holds(t, "all turned", q, most, was...)
			}
		}
	}
}

func TestRoundTheRingManyTimes(t *testing.T) {
	for _, most := range []int{1, 2, 3, 5, 1024} {
		for _, kept := range []int{0, 1, most / 2, most - 1} {
			if kept >= most {
				continue
			}
			q := made(t, most)
			in, out := 0, 0
			for range 5*most + 7 {
				if why := q.Push(in); why != api.OK {
					t.Fatalf("of %d: Push(%d) = %d", most, in, why)
				}
				in++
				if in-out > kept {
					pops(t, q, out, api.OK)
					out++
				}
			}
			want := []int{}
			for n := out; n < in; n++ {
				want = append(want, n)
			}
			holds(t, "gone round", q, most, want...)
		}
	}
}

// plain is the same thing without a ring.
type plain struct {
	most int
	list []int
}

func (p *plain) push(n int) api.Errno {
	if slices.Contains(p.list, n) {
		return api.ErrState
	}
	if len(p.list) == p.most {
		return api.ErrFull
	}
	p.list = append(p.list, n)
	return api.OK
}

func (p *plain) pop() (int, api.Errno) {
	if len(p.list) == 0 {
		return 0, api.ErrEmpty
	}
	n := p.list[0]
	p.list = slices.Delete(p.list, 0, 1)
	return n, api.OK
}

func (p *plain) drop(n int) api.Errno {
	k := slices.Index(p.list, n)
	if k < 0 {
		return api.ErrNone
	}
	p.list = slices.Delete(p.list, k, k+1)
	return api.OK
}

func (p *plain) turn() api.Errno {
	n, why := p.pop()
	if why == api.OK {
		p.list = append(p.list, n)
	}
	return why
}

// TestAgainstAPlainList does long mixed runs of calls, by a fixed rule.
func TestAgainstAPlainList(t *testing.T) {
	state := uint64(1)
	draw := func(n int) int {
		state = state*6364136223846793005 + 1442695040888963407
		return int((state >> 33) % uint64(n))
	}
	for _, most := range []int{1, 2, 3, 4, 8, 17, 64} {
		q, p := made(t, most), &plain{most: most}
		for range 4000 {
			n := draw(most+3) - 2
			switch draw(9) {
			case 0, 1, 2, 3:
				if got, want := q.Push(n), p.push(n); got != want {
					t.Fatalf("Push(%d) = %d, want %d", n, got, want)
				}
			case 4, 5:
				want, why := p.pop()
				pops(t, q, want, why)
			case 6, 7:
				if got, want := q.Drop(n), p.drop(n); got != want {
					t.Fatalf("Drop(%d) = %d, want %d", n, got, want)
				}
			default:
				if got, want := q.Turn(), p.turn(); got != want {
					t.Fatalf("Turn() = %d, want %d", got, want)
				}
			}
			if q.Has(n) != slices.Contains(p.list, n) {
				t.Fatalf("Has(%d) = %v", n, q.Has(n))
			}
			holds(t, "mixed", q, most, p.list...)
		}
	}
}

func TestTwoQueuesShareNothing(t *testing.T) {
	a, b := made(t, 3, 1, 2), made(t, 3, 2, 3)
	a.Turn()
	b.Drop(2)
	holds(t, "the one", a, 3, 2, 1)
	holds(t, "the other", b, 3, 3)
}

func TestListIsTheCallersOwn(t *testing.T) {
	for start := range 4 {
		q := goneRound(t, 4, start)
		for _, n := range []int{7, 8, 9} {
			q.Push(n)
		}
		one, two := q.List(), q.List()
		for k := range one {
			one[k] = -1
		}
		_ = append(one, -2, -3)
		if !slices.Equal(two, []int{7, 8, 9}) {
			t.Errorf("a list was changed by another: %v", two)
		}
		holds(t, "written into", q, 4, 7, 8, 9)
		q.Push(10)
		holds(t, "appended to", q, 4, 7, 8, 9, 10)
		q.Pop()
		q.Turn()
		if !slices.Equal(two, []int{7, 8, 9}) {
			t.Errorf("a list was changed by the queue: %v", two)
		}
	}
}

// none says what a queue that has no room, or is not there, answers.
func none(t *testing.T, q *fifo.Queue, push, take, drop api.Errno) {
	t.Helper()
	for _, n := range []int{math.MinInt, -1, 0, 1, math.MaxInt} {
		if why := q.Push(n); why != push {
			t.Errorf("Push(%d) = %d, want %d", n, why, push)
		}
		if why := q.Drop(n); why != drop {
			t.Errorf("Drop(%d) = %d, want %d", n, why, drop)
		}
		if q.Has(n) {
			t.Errorf("Has(%d) = true", n)
		}
	}
	if n, why := q.Pop(); n != 0 || why != take {
		t.Errorf("Pop() = %d, %d, want 0, %d", n, why, take)
	}
	if n, why := q.Front(); n != 0 || why != take {
		t.Errorf("Front() = %d, %d, want 0, %d", n, why, take)
	}
	if why := q.Turn(); why != take {
		t.Errorf("Turn() = %d, want %d", why, take)
	}
	if q.Len() != 0 || q.Cap() != 0 || len(q.List()) != 0 {
		t.Errorf("Len() = %d, Cap() = %d, List() = %v", q.Len(), q.Cap(), q.List())
	}
}

func TestNilQueue(t *testing.T) {
	none(t, nil, api.ErrNil, api.ErrNil, api.ErrNil)
}

func TestQueueThatNewDidNotMake(t *testing.T) {
	none(t, &fifo.Queue{}, api.ErrFull, api.ErrEmpty, api.ErrNone)
}
