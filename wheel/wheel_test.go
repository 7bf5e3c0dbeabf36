package wheel_test

import (
	"cmp"
	"math"
	"slices"
	"testing"

	"davit/api"
	"davit/wheel"
)

const most = int64(1) << 60

// noTicks can not be, unlikely ones are things as good as any.
var (
	noTicks  = []int64{math.MinInt64, -most - 1, -most, -1 << 32, -2, -1, most + 1, most + 8, 1 << 61, math.MaxInt64}
	unlikely = []int{0, -1, math.MinInt, math.MaxInt, 1 << 32, -1 << 32, 1<<32 + 1}
)

func made(t *testing.T, now int64) *wheel.Wheel {
	t.Helper()
	w, why := wheel.New(now)
	if why != api.OK || w == nil {
		t.Fatalf("New(%d) = %v, %d", now, w, why)
	}
	return w
}

func answers(t *testing.T, what string, why, want api.Errno) {
	t.Helper()
	if why != want {
		t.Fatalf("%s = %d, want %d", what, why, want)
	}
}

// adds adds things that are due at these ticks, whose numbers are 1 and those behind it.
func adds(t *testing.T, w *wheel.Wheel, ticks ...int64) {
	t.Helper()
	for i, due := range ticks {
		answers(t, "Add", w.Add(i+1, due), api.OK)
	}
}

func goes(t *testing.T, w *wheel.Wheel, now int64) {
	t.Helper()
	if why := w.Go(now); why != api.OK {
		t.Fatalf("Go(%d) = %d at %d", now, why, w.Now())
	}
}

func dues(t *testing.T, w *wheel.Wheel, want ...int) {
	t.Helper()
	if l := w.Due(); !slices.Equal(l, want) {
		t.Fatalf("at %d: Due() = %v, want %v", w.Now(), l, want)
	}
}

func nexts(t *testing.T, w *wheel.Wheel, want int64, wantWhy api.Errno) {
	t.Helper()
	if n, why := w.Next(); n != want || why != wantWhy {
		t.Fatalf("at %d: Next() = %d, %d, want %d, %d", w.Now(), n, why, want, wantWhy)
	}
}

// plain is what a wheel must be: a tick, and the tick of each thing.
type plain struct {
	now   int64
	ticks map[int]int64
}

func (p *plain) list() []int {
	ids := []int{}
	for id := range p.ticks {
		ids = append(ids, id)
	}
	slices.SortFunc(ids, func(a, b int) int {
		return cmp.Or(cmp.Compare(p.ticks[a], p.ticks[b]), cmp.Compare(a, b))
	})
	return ids
}

// holds says by each call that only looks that a wheel is as it must be.
func holds(t *testing.T, what string, w *wheel.Wheel, p *plain) {
	t.Helper()
	list := p.list()
	due, first, why := []int{}, int64(0), api.ErrEmpty
	for i, id := range list {
		if i == 0 {
			first, why = p.ticks[id], api.OK
		}
		if p.ticks[id] <= p.now {
			due = append(due, id)
		}
		if n, in := w.When(id); n != p.ticks[id] || !in {
			t.Fatalf("%s: When(%d) = %d, %v, want %d, true", what, id, n, in, p.ticks[id])
		}
	}
	if w.Now() != p.now || w.Len() != len(list) {
		t.Fatalf("%s: Now() = %d, Len() = %d, want %d, %d", what, w.Now(), w.Len(), p.now, len(list))
	}
	if l := w.List(); !slices.Equal(l, list) {
		t.Fatalf("%s: at %d: List() = %v, want %v", what, p.now, l, list)
	}
	dues(t, w, due...)
	nexts(t, w, first, why)
}

// lacks says that things are not in.
func lacks(t *testing.T, w *wheel.Wheel, ids ...int) {
	t.Helper()
	for _, id := range ids {
		if n, in := w.When(id); n != 0 || in {
			t.Fatalf("When(%d) = %d, %v, want 0, false", id, n, in)
		}
		answers(t, "Drop", w.Drop(id), api.ErrNone)
	}
}

// edges are the ticks at and beside each power of eight, and the least and greatest ones.
func edges() []int64 {
	ticks := []int64{0, most}
	for power := int64(1); power < most; power *= 8 {
		ticks = append(ticks, power-1, power, power+1, 7*power, 8*power-1)
	}
	slices.Sort(ticks)
	return slices.Compact(ticks)
}

func TestNewTellsItsTick(t *testing.T) {
	for _, now := range noTicks {
		if w, why := wheel.New(now); w != nil || why != api.ErrArg {
			t.Errorf("New(%d) = %v, %d, want nil, %d", now, w, why, api.ErrArg)
		}
	}
	for _, now := range []int64{0, 1, 7, 8, 1 << 32, most - 1, most} {
		w := made(t, now)
		holds(t, "new", w, &plain{now: now})
		lacks(t, w, append([]int{1, 2}, unlikely...)...)
	}
}

func TestWheelOfTheDocument(t *testing.T) {
	w := made(t, 5)
	answers(t, "Add", w.Add(1, 9), api.OK)
	answers(t, "Add", w.Add(2, 7), api.OK)
	dues(t, w)
	goes(t, w, 8)
	dues(t, w, 2)
	nexts(t, w, 7, api.OK)
	holds(t, "the document's", w, &plain{now: 8, ticks: map[int]int64{1: 9, 2: 7}})
}

func TestAddThatIsRefused(t *testing.T) {
	w, want := made(t, 60), &plain{now: 60, ticks: map[int]int64{1: 70, 2: 60, 3: 5}}
	adds(t, w, 70, 60, 5)
	for _, due := range noTicks {
		answers(t, "Add", w.Add(4, due), api.ErrArg)
		// What can not be is told ahead of that the thing is in.
		answers(t, "Add", w.Add(1, due), api.ErrArg)
	}
	for _, due := range []int64{0, 5, 60, 61, 70, most} {
		for id := 1; id <= 3; id++ {
			answers(t, "Add", w.Add(id, due), api.ErrState)
		}
	}
	lacks(t, w, 4)
	holds(t, "refused", w, want)
}

func TestAddOfWhatIsDueAtOnce(t *testing.T) {
	w, want := made(t, 100), &plain{now: 100, ticks: map[int]int64{}}
	for i, due := range []int64{100, 0, 99, 101, 100, 64, 63, 0} {
		answers(t, "Add", w.Add(-i, due), api.OK)
		want.ticks[-i] = due
		holds(t, "added", w, want)
	}
	dues(t, w, -7, -1, -6, -5, -2, -4, 0)
	// At the greatest tick everything is.
	last := made(t, most)
	adds(t, last, most, 0, most-1)
	dues(t, last, 2, 3, 1)
}

func TestAnyNumberIsAThing(t *testing.T) {
	w, want := made(t, 0), &plain{ticks: map[int]int64{}}
	for _, id := range unlikely {
		answers(t, "Add", w.Add(id, 9), api.OK)
		want.ticks[id] = 9
		holds(t, "added", w, want)
	}
	goes(t, w, 9)
	dues(t, w, math.MinInt, -1<<32, -1, 0, 1<<32, 1<<32+1, math.MaxInt)
	for _, id := range unlikely {
		answers(t, "Drop", w.Drop(id), api.OK)
	}
	holds(t, "dropped", w, &plain{now: 9})
}

func TestDrop(t *testing.T) {
	w, want := made(t, 10), &plain{now: 10, ticks: map[int]int64{1: 5, 2: 10, 3: 11, 4: 11, 5: 90, 6: most, 7: 88, 8: 95}}
	adds(t, w, 5, 10, 11, 11, 90, most, 88, 95)
	lacks(t, w, append([]int{9}, unlikely...)...)
	holds(t, "refused", w, want)
	for _, id := range []int{5, 1, 4, 6, 8, 2, 3, 7} {
		answers(t, "Drop", w.Drop(id), api.OK)
		delete(want.ticks, id)
		holds(t, "dropped", w, want)
		lacks(t, w, id)
	}
	// What is out may come in again, with another tick.
	adds(t, w, 12)
	holds(t, "anew", w, &plain{now: 10, ticks: map[int]int64{1: 12}})
}

// TestDropAfterGo: what has moved while the tick went on is found where it stands then.
func TestDropAfterGo(t *testing.T) {
	for _, now := range edges() {
		w, want := made(t, 0), &plain{now: now, ticks: map[int]int64{}}
		for i, due := range edges() {
			answers(t, "Add", w.Add(i, due), api.OK)
			want.ticks[i] = due
		}
		goes(t, w, now)
		holds(t, "gone on", w, want)
		for i := range edges() {
			answers(t, "Drop", w.Drop(i), api.OK)
			delete(want.ticks, i)
			lacks(t, w, i)
		}
		holds(t, "dropped", w, want)
	}
}

func TestGoThatIsRefused(t *testing.T) {
	for _, now := range []int64{1, 8, 1 << 33, most} {
		w, want := made(t, now), &plain{now: now, ticks: map[int]int64{1: 0, 2: now, 3: most}}
		adds(t, w, 0, now, most)
		for _, back := range append([]int64{0, now - 1, now / 2}, noTicks...) {
			answers(t, "Go", w.Go(back), api.ErrArg)
		}
		holds(t, "refused", w, want)
	}
	for _, now := range noTicks {
		answers(t, "Go", made(t, 0).Go(now), api.ErrArg)
	}
}

func TestGoToTheSameTick(t *testing.T) {
	for _, now := range edges() {
		w, want := made(t, now), &plain{now: now, ticks: map[int]int64{1: now, 2: min(now+1, most), 3: most, 4: 0}}
		adds(t, w, now, min(now+1, most), most, 0)
		for range 3 {
			goes(t, w, now)
			holds(t, "stood", w, want)
		}
	}
}

// TestDueAtItsTickAndNotEarlier goes to one tick ahead of each thing, and to it, from each tick that is an edge.
func TestDueAtItsTickAndNotEarlier(t *testing.T) {
	for _, from := range edges() {
		for _, due := range edges() {
			w := made(t, from)
			adds(t, w, due)
			if due <= from {
				dues(t, w, 1)
				continue
			}
			dues(t, w)
			goes(t, w, due-1)
			dues(t, w)
			nexts(t, w, due, api.OK)
			goes(t, w, due)
			dues(t, w, 1)
			nexts(t, w, due, api.OK)
			goes(t, w, most)
			dues(t, w, 1)
		}
	}
}

// TestHoweverManySteps brings wheels to one tick in steps of other widths: they tell the same at each tick where two meet.
func TestHoweverManySteps(t *testing.T) {
	for _, width := range []int64{1, 2, 3, 7, 8, 9, 63, 64, 65, 100, 511, 512, 513, 1300} {
		w, want := made(t, 0), &plain{ticks: map[int]int64{}}
		for due := range int64(650) {
			answers(t, "Add", w.Add(int(due), 2*due), api.OK)
			want.ticks[int(due)] = 2 * due
		}
		for want.now+width <= 1300 {
			want.now += width
			goes(t, w, want.now)
			nexts(t, w, 0, api.OK)
			if l := w.Due(); int64(len(l)) != min(want.now/2+1, 650) {
				t.Fatalf("steps of %d: at %d there are %d due", width, want.now, len(l))
			}
		}
		holds(t, "gone on", w, want)
	}
}

// TestEachEdgeByTheNext goes from edge to edge, over things at all of them.
func TestEachEdgeByTheNext(t *testing.T) {
	w, want := made(t, 0), &plain{ticks: map[int]int64{}}
	for i, due := range edges() {
		// Two of one tick, the greater number ahead of the lower one.
		for _, id := range []int{1000 - i, i - 1000} {
			answers(t, "Add", w.Add(id, due), api.OK)
			want.ticks[id] = due
		}
	}
	holds(t, "added", w, want)
	for _, now := range edges() {
		want.now = now
		goes(t, w, now)
		holds(t, "gone on", w, want)
	}
}

// TestNextIsTheFirstOnes takes out what is first till there is none.
func TestNextIsTheFirstOnes(t *testing.T) {
	w, want := made(t, 63), &plain{now: 63, ticks: map[int]int64{}}
	for i, due := range edges() {
		answers(t, "Add", w.Add(i, due), api.OK)
		want.ticks[i] = due
	}
	for _, id := range want.list() {
		nexts(t, w, want.ticks[id], api.OK)
		answers(t, "Drop", w.Drop(id), api.OK)
		delete(want.ticks, id)
	}
	nexts(t, w, 0, api.ErrEmpty)
	holds(t, "empty", w, want)
}

func TestListsAreTheCallersOwn(t *testing.T) {
	w, want := made(t, 10), &plain{now: 10, ticks: map[int]int64{1: 5, 2: 10, 3: 11, 4: 80}}
	adds(t, w, 5, 10, 11, 80)
	list, due, otherList, otherDue := w.List(), w.Due(), w.List(), w.Due()
	for _, l := range [][]int{list, due} {
		for i := range l {
			l[i] = 99
		}
		_ = append(l[:1], 98, 97, 96)
	}
	_, _ = append(otherList, 95), append(otherDue, 94)
	if !slices.Equal(otherList, []int{1, 2, 3, 4}) || !slices.Equal(otherDue, []int{1, 2}) {
		t.Errorf("other lists are %v, %v after some were written into", otherList, otherDue)
	}
	holds(t, "written into", w, want)
	goes(t, w, 80)
	answers(t, "Drop", w.Drop(2), api.OK)
	if !slices.Equal(otherList, []int{1, 2, 3, 4}) || !slices.Equal(otherDue, []int{1, 2}) {
		t.Errorf("lists are %v, %v after calls", otherList, otherDue)
	}
}

func TestWheelsShareNothing(t *testing.T) {
	one, two := made(t, 0), made(t, 0)
	adds(t, one, 5, 9)
	adds(t, two, 5, 9)
	answers(t, "Drop", two.Drop(1), api.OK)
	answers(t, "Add", two.Add(3, 1), api.OK)
	goes(t, two, 9)
	holds(t, "one", one, &plain{ticks: map[int]int64{1: 5, 2: 9}})
	holds(t, "two", two, &plain{now: 9, ticks: map[int]int64{2: 9, 3: 1}})
}

func TestNilWheel(t *testing.T) {
	var w *wheel.Wheel
	for _, id := range append([]int{1, 2}, unlikely...) {
		for _, tick := range append([]int64{0, 1, most}, noTicks...) {
			answers(t, "Add", w.Add(id, tick), api.ErrNil)
			answers(t, "Go", w.Go(tick), api.ErrNil)
		}
		answers(t, "Drop", w.Drop(id), api.ErrNil)
		if n, in := w.When(id); n != 0 || in {
			t.Errorf("When(%d) = %d, %v", id, n, in)
		}
	}
	nexts(t, w, 0, api.ErrNil)
	if w.Now() != 0 || w.Len() != 0 || len(w.Due()) != 0 || len(w.List()) != 0 {
		t.Errorf("Now, Len, Due, List = %d, %d, %v, %v", w.Now(), w.Len(), w.Due(), w.List())
	}
}

// TestWheelThatNewDidNotMake: nothing panics; it is one of the tick 0.
func TestWheelThatNewDidNotMake(t *testing.T) {
	w := &wheel.Wheel{}
	lacks(t, w, 1)
	holds(t, "empty", w, &plain{})
	adds(t, w, 9, 0)
	goes(t, w, 3)
	holds(t, "added", w, &plain{now: 3, ticks: map[int]int64{1: 9, 2: 0}})
}

// TestMixedRuns holds long runs against the plain wheel, with steps from none to great ones.
func TestMixedRuns(t *testing.T) {
	state := uint64(13)
	below := func(n int64) int64 {
		state = state*6364136223846793005 + 1442695040888963407
		return int64((state >> 3) % uint64(n))
	}
	// far is some distance, near ones as often as far ones.
	far := func(bits int64) int64 { return below(int64(1) << below(bits+1)) }
	for _, span := range []int64{3, 7, 12, 60} {
		start := far(min(span+1, 60))
		w, p := made(t, start), &plain{now: start, ticks: map[int]int64{}}
		for step := range 6000 {
			id := int(below(60)) - 3
			due, in := p.ticks[id]
			var got, want api.Errno
			switch below(8) {
			case 0, 1, 2, 3:
				due = p.now + far(span) - far(3) + 2
				if got = w.Add(id, due); due < 0 || due > most {
					want = api.ErrArg
				} else if in {
					want = api.ErrState
				} else {
					p.ticks[id] = due
				}
			case 4, 5:
				if got = w.Drop(id); !in {
					want = api.ErrNone
				}
				delete(p.ticks, id)
			default:
				now := p.now + far(min(span, 58)) - below(2)
				if got = w.Go(now); now < p.now || now > most {
					want = api.ErrArg
				} else {
					p.now = now
				}
			}
			if got != want {
				t.Fatalf("span %d, step %d: %d, want %d", span, step, got, want)
			}
			holds(t, "mixed", w, p)
		}
	}
}
