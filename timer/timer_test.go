package timer_test

import (
	"cmp"
	"math"
	"slices"
	"testing"

	"davit/api"
	"davit/timer"
)

const most = int64(1) << 60

// noTicks can not be, noTimers are numbers that no timer ever has.
var (
	noTicks  = []int64{math.MinInt64, -most - 1, -most, -1 << 32, -2, -1, most + 1, most + 8, 1 << 61, math.MaxInt64}
	noTimers = []int{math.MinInt, -1 << 32, -48, -1, 0, 49, 50, 64, 65, 1 << 32, 1<<32 + 1, math.MaxInt}
)

// noCores are numbers that no core has, where there are so many.
func noCores(cpus int) []int {
	return []int{cpus, cpus + 1, 64, 65, 1 << 32, 1<<32 + 1, math.MaxInt, -1, -cpus, -64, -1 << 32, math.MinInt}
}

func made(t *testing.T, cpus int) *timer.Timers {
	t.Helper()
	x, why := timer.New(cpus)
	if why != api.OK || x == nil {
		t.Fatalf("New(%d) = %v, %d", cpus, x, why)
	}
	return x
}

func answers(t *testing.T, what string, why, want api.Errno) {
	t.Helper()
	if why != want {
		t.Fatalf("%s = %d, want %d", what, why, want)
	}
}

// gives says what a call that answers a timer gives.
func gives(t *testing.T, what string, id int, why api.Errno, want int, wantWhy api.Errno) {
	t.Helper()
	if id != want || why != wantWhy {
		t.Fatalf("%s = %d, %d, want %d, %d", what, id, why, want, wantWhy)
	}
}

func arms(t *testing.T, x *timer.Timers, cpu int, due int64, want int, wantWhy api.Errno) {
	t.Helper()
	id, why := x.Arm(cpu, due)
	gives(t, "Arm", id, why, want, wantWhy)
}

func fires(t *testing.T, x *timer.Timers, cpu, want int, wantWhy api.Errno) {
	t.Helper()
	id, why := x.Fire(cpu)
	gives(t, "Fire", id, why, want, wantWhy)
}

func moves(t *testing.T, x *timer.Timers, from, to, want int, wantWhy api.Errno) {
	t.Helper()
	id, why := x.Move(from, to)
	gives(t, "Move", id, why, want, wantWhy)
}

// one is a timer: its core, and its tick.
type one struct {
	cpu int
	due int64
}

// plain is what timers must be: a tick, and each timer by its number.
type plain struct {
	cpus   int
	now    int64
	timers map[int]one
}

func (p *plain) isCore(cpu int) bool { return cpu >= 0 && cpu < p.cpus }

// list is a core's timers, in order.
func (p *plain) list(cpu int) []int {
	ids := []int{}
	for id, x := range p.timers {
		if x.cpu == cpu {
			ids = append(ids, id)
		}
	}
	slices.SortFunc(ids, func(a, b int) int {
		return cmp.Or(cmp.Compare(p.timers[a].due, p.timers[b].due), cmp.Compare(a, b))
	})
	return ids
}

func (p *plain) arm(cpu int, due int64) (int, api.Errno) {
	switch {
	case !p.isCore(cpu):
		return 0, api.ErrRange
	case due < 0 || due > most:
		return 0, api.ErrArg
	case len(p.timers) == 48:
		return 0, api.ErrFull
	}
	id := 1
	for p.has(id) {
		id++
	}
	p.timers[id] = one{cpu, due}
	return id, api.OK
}

func (p *plain) has(id int) bool {
	_, in := p.timers[id]
	return in
}

func (p *plain) cancel(id int) api.Errno {
	if !p.has(id) {
		return api.ErrNone
	}
	delete(p.timers, id)
	return api.OK
}

func (p *plain) goOn(now int64) api.Errno {
	if now < p.now || now > most {
		return api.ErrArg
	}
	p.now = now
	return api.OK
}

func (p *plain) fire(cpu int) (int, api.Errno) {
	if !p.isCore(cpu) {
		return 0, api.ErrRange
	}
	l := p.list(cpu)
	if len(l) == 0 || p.timers[l[0]].due > p.now {
		return 0, api.ErrEmpty
	}
	delete(p.timers, l[0])
	return l[0], api.OK
}

func (p *plain) move(from, to int) (int, api.Errno) {
	switch {
	case !p.isCore(from) || !p.isCore(to):
		return 0, api.ErrRange
	case from == to:
		return 0, api.ErrArg
	case len(p.list(from)) == 0:
		return 0, api.ErrEmpty
	}
	id := p.list(from)[0]
	p.timers[id] = one{to, p.timers[id].due}
	return id, api.OK
}

// holds says by each call that only looks that timers are as they must be.
func holds(t *testing.T, what string, x *timer.Timers, p *plain) {
	t.Helper()
	if x.Now() != p.now {
		t.Fatalf("%s: Now() = %d, want %d", what, x.Now(), p.now)
	}
	for id := 0; id <= api.MaxTimers+1; id++ {
		want, there := p.timers[id]
		cpu, on := x.Where(id)
		due, in := x.When(id)
		if cpu != want.cpu || due != want.due || on != there || in != there {
			t.Fatalf("%s: of %d Where = %d, %v, When = %d, %v, want %v, %v", what, id, cpu, on, due, in, want, there)
		}
	}
	for cpu := range p.cpus {
		list := p.list(cpu)
		if l := x.List(cpu); !slices.Equal(l, list) || x.Load(cpu) != len(list) {
			t.Fatalf("%s: of %d List = %v, Load = %d, want %v", what, cpu, l, x.Load(cpu), list)
		}
		first, wantWhy, ready := int64(0), api.ErrEmpty, false
		if len(list) > 0 {
			first, wantWhy = p.timers[list[0]].due, api.OK
			ready = first <= p.now
		}
		if due, why := x.Next(cpu); due != first || why != wantWhy || x.Ready(cpu) != ready {
			t.Fatalf("%s: of %d at %d Next = %d, %d, Ready = %v, want %d, %d, %v", what, cpu, p.now, due, why, x.Ready(cpu), first, wantWhy, ready)
		}
	}
}

// refusesCores says what each call answers of cores that there are not, whatever else it is told.
func refusesCores(t *testing.T, x *timer.Timers, want api.Errno, cpus ...int) {
	t.Helper()
	for _, cpu := range cpus {
		for _, due := range append([]int64{0, most}, noTicks...) {
			arms(t, x, cpu, due, 0, want)
		}
		fires(t, x, cpu, 0, want)
		if due, why := x.Next(cpu); due != 0 || why != want {
			t.Fatalf("Next(%d) = %d, %d, want 0, %d", cpu, due, why, want)
		}
		moves(t, x, cpu, 0, 0, want)
		moves(t, x, 0, cpu, 0, want)
		moves(t, x, cpu, cpu, 0, want)
		if x.Ready(cpu) || x.Load(cpu) != 0 || len(x.List(cpu)) != 0 {
			t.Fatalf("of %d Ready = %v, Load = %d, List = %v", cpu, x.Ready(cpu), x.Load(cpu), x.List(cpu))
		}
	}
}

// lacks says that there are no such timers.
func lacks(t *testing.T, x *timer.Timers, want api.Errno, ids ...int) {
	t.Helper()
	for _, id := range ids {
		answers(t, "Cancel", x.Cancel(id), want)
		if cpu, on := x.Where(id); cpu != 0 || on {
			t.Fatalf("Where(%d) = %d, %v", id, cpu, on)
		}
		if due, in := x.When(id); due != 0 || in {
			t.Fatalf("When(%d) = %d, %v", id, due, in)
		}
	}
}

// four is timers of three cores at the tick 6, two of which are due on core 1, and what they must be.
func four(t *testing.T) (*timer.Timers, *plain) {
	t.Helper()
	x := made(t, 3)
	arms(t, x, 1, 9, 1, api.OK)
	arms(t, x, 1, 5, 2, api.OK)
	arms(t, x, 2, 7, 3, api.OK)
	arms(t, x, 1, 5, 4, api.OK)
	answers(t, "Go", x.Go(6), api.OK)
	return x, &plain{3, 6, map[int]one{1: {1, 9}, 2: {1, 5}, 3: {2, 7}, 4: {1, 5}}}
}

func TestNewTellsHowManyCoresThereMayBe(t *testing.T) {
	for _, cpus := range []int{math.MinInt, -1 << 32, -64, -1, 0, 65, 66, 128, 1 << 32, 1<<32 + 1, math.MaxInt} {
		if x, why := timer.New(cpus); x != nil || why != api.ErrArg {
			t.Errorf("New(%d) = %v, %d, want nil, %d", cpus, x, why, api.ErrArg)
		}
	}
	for _, cpus := range []int{1, 2, 63, 64} {
		x := made(t, cpus)
		holds(t, "new", x, &plain{cpus: cpus})
		refusesCores(t, x, api.ErrRange, noCores(cpus)...)
		arms(t, x, cpus-1, 3, 1, api.OK)
		holds(t, "armed", x, &plain{cpus, 0, map[int]one{1: {cpus - 1, 3}}})
	}
}

func TestTimersOfTheDocument(t *testing.T) {
	x := made(t, 1)
	arms(t, x, 0, 5, 1, api.OK)
	answers(t, "Go", x.Go(5), api.OK)
	fires(t, x, 0, 1, api.OK)
	fires(t, x, 0, 0, api.ErrEmpty)
	holds(t, "the document's", x, &plain{cpus: 1, now: 5})
}

func TestArm(t *testing.T) {
	x, p := made(t, 3), &plain{3, 0, map[int]one{}}
	for id := 1; id <= api.MaxTimers; id++ {
		due := int64(100 - id)
		arms(t, x, id%3, due, id, api.OK)
		p.timers[id] = one{id % 3, due}
		holds(t, "armed", x, p)
	}
	for cpu := range 3 {
		arms(t, x, cpu, 5, 0, api.ErrFull)
	}
	holds(t, "full", x, p)
	// What can not be is told ahead of that there is no room.
	for _, due := range noTicks {
		arms(t, x, 0, due, 0, api.ErrArg)
	}
	refusesCores(t, x, api.ErrRange, noCores(3)...)
	holds(t, "refused", x, p)
}

func TestArmOfEdges(t *testing.T) {
	x, p := made(t, 2), &plain{2, 0, map[int]one{1: {0, 0}, 2: {1, most}, 3: {0, most - 1}}}
	for _, due := range noTicks {
		arms(t, x, 1, due, 0, api.ErrArg)
	}
	arms(t, x, 0, 0, 1, api.OK)
	arms(t, x, 1, most, 2, api.OK)
	arms(t, x, 0, most-1, 3, api.OK)
	holds(t, "armed", x, p)
	// One may be due at once, or have been so for long.
	answers(t, "Go", x.Go(most), api.OK)
	arms(t, x, 1, 4, 4, api.OK)
	p.now, p.timers[4] = most, one{1, 4}
	holds(t, "gone on", x, p)
	fires(t, x, 1, 4, api.OK)
	fires(t, x, 1, 2, api.OK)
	fires(t, x, 1, 0, api.ErrEmpty)
}

// TestEachNumberComesBack takes one of as many timers as there may be away, whose number is the next one's.
func TestEachNumberComesBack(t *testing.T) {
	x, p := made(t, 2), &plain{2, 0, map[int]one{}}
	for id := 1; id <= api.MaxTimers; id++ {
		arms(t, x, 0, int64(id), id, api.OK)
		p.timers[id] = one{0, int64(id)}
	}
	for id := 1; id <= api.MaxTimers; id++ {
		answers(t, "Cancel", x.Cancel(id), api.OK)
		arms(t, x, 1, 7, id, api.OK)
		arms(t, x, 1, 7, 0, api.ErrFull)
		p.timers[id] = one{1, 7}
		holds(t, "come back", x, p)
	}
	for _, id := range []int{48, 5, 17} {
		answers(t, "Cancel", x.Cancel(id), api.OK)
	}
	answers(t, "Go", x.Go(7), api.OK)
	fires(t, x, 1, 1, api.OK)
	for _, id := range []int{1, 5, 17, 48} {
		arms(t, x, 0, 0, id, api.OK)
	}
	arms(t, x, 0, 0, 0, api.ErrFull)
}

func TestCancel(t *testing.T) {
	x, p := four(t)
	lacks(t, x, api.ErrNone, append([]int{5, 48}, noTimers...)...)
	holds(t, "refused", x, p)
	// One that is due may be cancelled, too: it fires no more.
	for _, id := range []int{2, 3, 1, 4} {
		answers(t, "Cancel", x.Cancel(id), api.OK)
		delete(p.timers, id)
		holds(t, "cancelled", x, p)
		lacks(t, x, api.ErrNone, id)
		holds(t, "refused", x, p)
	}
	answers(t, "Go", x.Go(most), api.OK)
	for cpu := range 3 {
		fires(t, x, cpu, 0, api.ErrEmpty)
	}
}

func TestGo(t *testing.T) {
	x, p := four(t)
	for _, now := range append([]int64{0, 5}, noTicks...) {
		answers(t, "Go", x.Go(now), api.ErrArg)
		holds(t, "refused", x, p)
	}
	for _, now := range []int64{6, 7, 8, 8, 9, 10, 1 << 40, most - 1, most, most} {
		answers(t, "Go", x.Go(now), api.OK)
		p.now = now
		holds(t, "gone on", x, p)
	}
	answers(t, "Go", x.Go(most-1), api.ErrArg)
	holds(t, "at the end", x, p)
}

// TestGoIsOfAllWheels: a timer that comes to any core later is held against the one tick.
func TestGoIsOfAllWheels(t *testing.T) {
	x := made(t, 64)
	answers(t, "Go", x.Go(100), api.OK)
	for cpu := range 48 {
		arms(t, x, cpu+16, 100, cpu+1, api.OK)
	}
	for cpu := range 48 {
		fires(t, x, cpu+16, cpu+1, api.OK)
		arms(t, x, cpu, 101, cpu+1, api.OK)
		fires(t, x, cpu, 0, api.ErrEmpty)
	}
}

func TestFire(t *testing.T) {
	x, p := four(t)
	fires(t, x, 0, 0, api.ErrEmpty)
	fires(t, x, 2, 0, api.ErrEmpty)
	holds(t, "refused", x, p)
	for _, id := range []int{2, 4} {
		fires(t, x, 1, id, api.OK)
		delete(p.timers, id)
		holds(t, "fired", x, p)
		lacks(t, x, api.ErrNone, id)
	}
	fires(t, x, 1, 0, api.ErrEmpty)
	refusesCores(t, x, api.ErrRange, noCores(3)...)
	holds(t, "refused", x, p)
	answers(t, "Go", x.Go(8), api.OK)
	fires(t, x, 1, 0, api.ErrEmpty)
	fires(t, x, 2, 3, api.OK)
	answers(t, "Go", x.Go(9), api.OK)
	fires(t, x, 1, 1, api.OK)
	holds(t, "all fired", x, &plain{cpus: 3, now: 9})
}

func TestMove(t *testing.T) {
	x, p := four(t)
	moves(t, x, 0, 1, 0, api.ErrEmpty)
	for cpu := range 3 {
		// That they are one core is told ahead of that it has none.
		moves(t, x, cpu, cpu, 0, api.ErrArg)
	}
	refusesCores(t, x, api.ErrRange, noCores(3)...)
	holds(t, "refused", x, p)
	// The first ones go first, due or not; on the other core they stand by their ticks.
	for _, id := range []int{2, 4, 1} {
		moves(t, x, 1, 2, id, api.OK)
		p.timers[id] = one{2, p.timers[id].due}
		holds(t, "moved", x, p)
	}
	moves(t, x, 1, 2, 0, api.ErrEmpty)
	if l := x.List(2); !slices.Equal(l, []int{2, 4, 3, 1}) {
		t.Errorf("List(2) = %v", l)
	}
	answers(t, "Cancel", x.Cancel(4), api.OK)
	fires(t, x, 1, 0, api.ErrEmpty)
	fires(t, x, 2, 2, api.OK)
	fires(t, x, 2, 0, api.ErrEmpty)
	moves(t, x, 2, 0, 3, api.OK)
	answers(t, "Go", x.Go(9), api.OK)
	fires(t, x, 0, 3, api.OK)
	fires(t, x, 2, 1, api.OK)
	holds(t, "all fired", x, &plain{cpus: 3, now: 9})
}

// TestAllOnOneCore moves as many timers as there may be to one core.
func TestAllOnOneCore(t *testing.T) {
	x, p := made(t, 49), &plain{49, 0, map[int]one{}}
	for id := 1; id <= api.MaxTimers; id++ {
		arms(t, x, id, int64(id%5), id, api.OK)
		moves(t, x, id, 0, id, api.OK)
		p.timers[id] = one{0, int64(id % 5)}
	}
	holds(t, "all on one", x, p)
	answers(t, "Go", x.Go(4), api.OK)
	for _, id := range p.list(0) {
		fires(t, x, 0, id, api.OK)
	}
	holds(t, "all fired", x, &plain{cpus: 49, now: 4})
}

// TestEachTimerFiresOnceAtItsTick lets timers go round while the tick goes on, and counts what fires when.
func TestEachTimerFiresOnceAtItsTick(t *testing.T) {
	for _, width := range []int64{1, 2, 7, 8, 13, 64} {
		x, ticks := made(t, 3), map[int]int64{}
		for id := 1; id <= api.MaxTimers; id++ {
			ticks[id] = int64(id*id) % 131
			arms(t, x, id%3, ticks[id], id, api.OK)
		}
		for now := int64(0); now <= 131+width; now += width {
			answers(t, "Go", x.Go(now), api.OK)
			from := int(now/width) % 3
			x.Move(from, (from+1)%3)
			for cpu := range 3 {
				for x.Ready(cpu) {
					id, why := x.Fire(cpu)
					due, waits := ticks[id]
					if why != api.OK || !waits || due > now || due <= now-width {
						t.Fatalf("steps of %d: at %d Fire(%d) = %d, %d, which waits %v for %d", width, now, cpu, id, why, waits, due)
					}
					delete(ticks, id)
				}
			}
		}
		if len(ticks) != 0 {
			t.Errorf("steps of %d: %v never fired", width, ticks)
		}
	}
}

func TestListIsTheCallersOwn(t *testing.T) {
	x, p := four(t)
	list, other := x.List(1), x.List(1)
	for i := range list {
		list[i] = 99
	}
	_, _ = append(list[:1], 98, 97, 96), append(other, 95)
	if !slices.Equal(other, []int{2, 4, 1}) {
		t.Errorf("another list is %v after one was written into", other)
	}
	holds(t, "written into", x, p)
	fires(t, x, 1, 2, api.OK)
	if !slices.Equal(other, []int{2, 4, 1}) {
		t.Errorf("a list is %v after a call", other)
	}
}

func TestTimersShareNothing(t *testing.T) {
	x, p := four(t)
	y, q := four(t)
	fires(t, y, 1, 2, api.OK)
	moves(t, y, 1, 0, 4, api.OK)
	answers(t, "Cancel", y.Cancel(3), api.OK)
	answers(t, "Go", y.Go(8), api.OK)
	q.now, q.timers = 8, map[int]one{1: {1, 9}, 4: {0, 5}}
	holds(t, "one", x, p)
	holds(t, "the other", y, q)
}

func TestNilTimers(t *testing.T) {
	var x *timer.Timers
	refusesCores(t, x, api.ErrNil, append([]int{0, 1, 2}, noCores(1)...)...)
	lacks(t, x, api.ErrNil, append([]int{1, 2, 48}, noTimers...)...)
	for _, now := range append([]int64{0, 1, most}, noTicks...) {
		answers(t, "Go", x.Go(now), api.ErrNil)
	}
	if x.Now() != 0 {
		t.Errorf("Now() = %d", x.Now())
	}
}

// TestTimersThatNewDidNotMake: nothing panics; they are those of no cores.
func TestTimersThatNewDidNotMake(t *testing.T) {
	x := &timer.Timers{}
	refusesCores(t, x, api.ErrRange, append([]int{0, 1, 2}, noCores(1)...)...)
	lacks(t, x, api.ErrNone, append([]int{1, 2, 48}, noTimers...)...)
	x.Go(5)
	if x.Now() != 0 {
		t.Errorf("Now() = %d", x.Now())
	}
}

// TestMixedRuns holds long runs against the plain timers.
func TestMixedRuns(t *testing.T) {
	state := uint64(14)
	below := func(n int) int {
		state = state*6364136223846793005 + 1442695040888963407
		return int((state >> 33) % uint64(n))
	}
	for _, cpus := range []int{1, 2, 5, 63, 64} {
		x, p := made(t, cpus), &plain{cpus, 0, map[int]one{}}
		for step := range 3000 {
			id, cpu, to := below(52)-1, below(cpus+2)-1, below(cpus+2)-1
			var got, want, gotId, wantId = api.OK, api.OK, 0, 0
			switch below(11) {
			case 0, 1, 2, 3:
				due := p.now + int64(below(1<<below(10))-below(5))
				gotId, got = x.Arm(cpu, due)
				wantId, want = p.arm(cpu, due)
			case 4:
				got, want = x.Cancel(id), p.cancel(id)
			case 5, 6:
				now := p.now + int64(below(1<<below(6))-below(2))
				got, want = x.Go(now), p.goOn(now)
			case 7, 8:
				gotId, got = x.Fire(cpu)
				wantId, want = p.fire(cpu)
			default:
				gotId, got = x.Move(cpu, to)
				wantId, want = p.move(cpu, to)
			}
			if got != want || gotId != wantId {
				t.Fatalf("%d cores, step %d: %d, %d, want %d, %d", cpus, step, gotId, got, wantId, want)
			}
			holds(t, "mixed", x, p)
		}
	}
}
