package irq_test

import (
	"math"
	"slices"
	"testing"

	"davit/api"
	"davit/irq"
	"davit/mask"
)

const all = ^mask.Mask(0)

// noCounts are no numbers of cores that there may be, noIrqs numbers that no interrupt has.
var (
	noCounts = []int{math.MinInt, -1 << 32, -64, -1, 0, 65, 66, 128, 1 << 32, 1<<32 + 1, math.MaxInt}
	noIrqs   = []int{math.MinInt, -1 << 32, -16, -1, 16, 17, 32, 64, 1 << 32, 1<<32 + 3, math.MaxInt}
)

// noMasks are those that can not be of so many cores.
func noMasks(cpus int) []mask.Mask {
	l := []mask.Mask{0}
	for cpu := cpus; cpu < api.MaxCpu; cpu++ {
		l = append(l, mask.Of(cpu), mask.Of(0, cpu), mask.Upto(cpu+1))
	}
	return l
}

func made(t *testing.T, cpus int) *irq.Table {
	t.Helper()
	x, why := irq.New(cpus)
	if why != api.OK || x == nil {
		t.Fatalf("New(%d) = %v, %d", cpus, x, why)
	}
	return x
}

func answers(t *testing.T, what string, why, want api.Errno) {
	t.Helper()
	if why != want {
		t.Fatalf("%s = %d, want %d", what, why, want)
	}
}

// holds says by each call that only looks that the interrupts are these, and the others not wanted.
func holds(t *testing.T, what string, x *irq.Table, want map[int]irq.Irq) {
	t.Helper()
	var wanted []int
	for n := range api.MaxIrqs {
		one, is := want[n]
		if is {
			wanted = append(wanted, n)
		}
		if y, why := x.Get(n); y != one || why != api.OK {
			t.Fatalf("%s: Get(%d) = %+v, %d, want %+v", what, n, y, why, one)
		}
		if ready := one.Wanted && one.Pending && !one.Masked; x.Ready(n) != ready {
			t.Fatalf("%s: Ready(%d) = %v, want %v, of %+v", what, n, x.Ready(n), ready, one)
		}
	}
	if l := x.List(); !slices.Equal(l, wanted) {
		t.Fatalf("%s: List() = %v, want %v", what, l, wanted)
	}
}

// refuses says that each call of these numbers that needs one that is wanted is answered so, whatever else it is told.
func refuses(t *testing.T, x *irq.Table, want api.Errno, numbers ...int) {
	t.Helper()
	for _, n := range numbers {
		answers(t, "Free", x.Free(n), want)
		for _, m := range []mask.Mask{0, 1, 1 << 63, all} {
			answers(t, "Aim", x.Aim(n, m), want)
		}
		answers(t, "Hush", x.Hush(n), want)
		answers(t, "Unhush", x.Unhush(n), want)
		answers(t, "Raise", x.Raise(n), want)
		answers(t, "Clear", x.Clear(n), want)
		if x.Ready(n) {
			t.Fatalf("Ready(%d) = true", n)
		}
	}
}

// lacks says that each call at all of these numbers is answered so.
func lacks(t *testing.T, x *irq.Table, want api.Errno, numbers ...int) {
	t.Helper()
	refuses(t, x, want, numbers...)
	for _, n := range numbers {
		for _, m := range []mask.Mask{0, 1, 1 << 63, all} {
			answers(t, "Request", x.Request(n, m), want)
		}
		if y, why := x.Get(n); y != (irq.Irq{}) || why != want {
			t.Fatalf("Get(%d) = %+v, %d, want none, %d", n, y, why, want)
		}
	}
}

// mixed is a table of three cores whose interrupts are wanted in all four ways of masked and pending, and these interrupts.
func mixed(t *testing.T) (*irq.Table, map[int]irq.Irq) {
	t.Helper()
	x, want := made(t, 3), map[int]irq.Irq{
		15: {Wanted: true, Mask: 7},
		0:  {Wanted: true, Masked: true, Mask: 1},
		7:  {Wanted: true, Pending: true, Mask: 4},
		8:  {Wanted: true, Masked: true, Pending: true, Mask: 6},
	}
	for _, n := range []int{15, 7, 0, 8} {
		answers(t, "Request", x.Request(n, want[n].Mask), api.OK)
		if want[n].Masked {
			answers(t, "Hush", x.Hush(n), api.OK)
		}
		if want[n].Pending {
			answers(t, "Raise", x.Raise(n), api.OK)
		}
	}
	holds(t, "mixed", x, want)
	return x, want
}

// unwanted are the numbers that no interrupt of mixed has.
func unwanted() []int {
	return []int{1, 2, 3, 4, 5, 6, 9, 10, 11, 12, 13, 14}
}

func TestNewTellsHowManyCoresThereMayBe(t *testing.T) {
	for _, cpus := range noCounts {
		if x, why := irq.New(cpus); x != nil || why != api.ErrArg {
			t.Errorf("New(%d) = %v, %d, want nil, %d", cpus, x, why, api.ErrArg)
		}
	}
	for cpus := 1; cpus <= api.MaxCpu; cpus++ {
		x := made(t, cpus)
		holds(t, "new", x, nil)
		for n := range api.MaxIrqs {
			refuses(t, x, api.ErrNone, n)
		}
		lacks(t, x, api.ErrRange, noIrqs...)
		holds(t, "refused", x, nil)
	}
}

func TestInterruptsOfTheDocument(t *testing.T) {
	x := made(t, 1)
	answers(t, "Request", x.Request(3, 1), api.OK)
	answers(t, "Hush", x.Hush(3), api.OK)
	answers(t, "Raise", x.Raise(3), api.OK)
	if x.Ready(3) {
		t.Error("it is ready while it is masked")
	}
	answers(t, "Unhush", x.Unhush(3), api.OK)
	if !x.Ready(3) {
		t.Error("it is not ready when it is not masked any more")
	}
	holds(t, "the document's", x, map[int]irq.Irq{3: {Wanted: true, Pending: true, Mask: 1}})
}

func TestRequest(t *testing.T) {
	x, want := made(t, 5), map[int]irq.Irq{}
	for i := range api.MaxIrqs {
		// Not in the order of their numbers: List rises though.
		n := (i*5 + 9) % api.MaxIrqs
		m := mask.Mask(n*2 + 1)
		answers(t, "Request", x.Request(n, m), api.OK)
		want[n] = irq.Irq{Wanted: true, Mask: m}
		holds(t, "requested", x, want)
	}
	for n := range api.MaxIrqs {
		answers(t, "Request", x.Request(n, 1), api.ErrState)
	}
	lacks(t, x, api.ErrRange, noIrqs...)
	holds(t, "all are wanted", x, want)
}

func TestMasksThatCanBe(t *testing.T) {
	for _, cpus := range []int{1, 2, 3, 31, 32, 33, 63, 64} {
		x := made(t, cpus)
		for _, m := range noMasks(cpus) {
			for n := range api.MaxIrqs {
				answers(t, "Request", x.Request(n, m), api.ErrArg)
			}
		}
		holds(t, "refused", x, nil)
		for _, m := range []mask.Mask{1, mask.Of(cpus - 1), mask.Upto(cpus)} {
			answers(t, "Request", x.Request(6, m), api.OK)
			want := map[int]irq.Irq{6: {Wanted: true, Mask: m}}
			holds(t, "requested", x, want)
			for _, no := range noMasks(cpus) {
				answers(t, "Aim", x.Aim(6, no), api.ErrArg)
				// That it is wanted is told ahead of what the mask is.
				answers(t, "Request", x.Request(6, no), api.ErrState)
			}
			holds(t, "refused", x, want)
			answers(t, "Free", x.Free(6), api.OK)
		}
	}
}

func TestRequestThatIsRefused(t *testing.T) {
	x, want := mixed(t)
	for n := range want {
		for _, m := range append(noMasks(3), 1, 2, 7) {
			answers(t, "Request", x.Request(n, m), api.ErrState)
		}
	}
	lacks(t, x, api.ErrRange, noIrqs...)
	holds(t, "refused", x, want)
}

func TestFree(t *testing.T) {
	x, want := mixed(t)
	refuses(t, x, api.ErrNone, unwanted()...)
	lacks(t, x, api.ErrRange, noIrqs...)
	holds(t, "refused", x, want)
	// Masked or not, pending or not: nothing is left to the next one of its number.
	for _, n := range []int{8, 15, 0, 7} {
		answers(t, "Free", x.Free(n), api.OK)
		delete(want, n)
		holds(t, "free", x, want)
		refuses(t, x, api.ErrNone, n)
		holds(t, "free still", x, want)
		answers(t, "Request", x.Request(n, 2), api.OK)
		want[n] = irq.Irq{Wanted: true, Mask: 2}
		holds(t, "anew", x, want)
		answers(t, "Clear", x.Clear(n), api.ErrEmpty)
		answers(t, "Unhush", x.Unhush(n), api.ErrState)
		answers(t, "Free", x.Free(n), api.OK)
		delete(want, n)
	}
	holds(t, "none is left", x, nil)
}

func TestAim(t *testing.T) {
	x, want := mixed(t)
	for n := range want {
		for m := mask.Mask(1); m < 8; m++ {
			answers(t, "Aim", x.Aim(n, m), api.OK)
			one := want[n]
			one.Mask = m
			want[n] = one
			holds(t, "aimed", x, want)
		}
		for _, m := range noMasks(3) {
			answers(t, "Aim", x.Aim(n, m), api.ErrArg)
		}
		holds(t, "refused", x, want)
	}
	refuses(t, x, api.ErrNone, unwanted()...)
	wide := made(t, 64)
	answers(t, "Request", wide.Request(2, 1), api.OK)
	answers(t, "Aim", wide.Aim(2, mask.Of(63)), api.OK)
	answers(t, "Aim", wide.Aim(2, all), api.OK)
	answers(t, "Aim", wide.Aim(2, 0), api.ErrArg)
	holds(t, "of all cores", wide, map[int]irq.Irq{2: {Wanted: true, Mask: all}})
}

func TestHushAndUnhush(t *testing.T) {
	x, want := mixed(t)
	for range 3 {
		for n, one := range want {
			on, off := x.Hush, x.Unhush
			if one.Masked {
				on, off = off, on
			}
			answers(t, "what it is already", off(n), api.ErrState)
			holds(t, "refused", x, want)
			answers(t, "what it is not yet", on(n), api.OK)
			one.Masked = !one.Masked
			want[n] = one
			holds(t, "turned", x, want)
			answers(t, "what it is already", on(n), api.ErrState)
			holds(t, "refused", x, want)
		}
	}
	refuses(t, x, api.ErrNone, unwanted()...)
	lacks(t, x, api.ErrRange, noIrqs...)
	holds(t, "refused", x, want)
}

func TestRaiseAndClear(t *testing.T) {
	x, want := mixed(t)
	for _, n := range []int{15, 0, 8} {
		answers(t, "Clear", x.Clear(n), api.ErrEmpty)
	}
	holds(t, "refused", x, want)
	for n, one := range want {
		for range 3 {
			answers(t, "Raise", x.Raise(n), api.OK)
			one.Pending = true
			want[n] = one
			holds(t, "raised", x, want)
		}
	}
	for n, one := range want {
		if one.Masked {
			answers(t, "Clear", x.Clear(n), api.ErrEmpty)
			holds(t, "masked", x, want)
			continue
		}
		answers(t, "Clear", x.Clear(n), api.OK)
		one.Pending = false
		want[n] = one
		holds(t, "cleared", x, want)
		answers(t, "Clear", x.Clear(n), api.ErrEmpty)
		holds(t, "cleared once", x, want)
	}
	refuses(t, x, api.ErrNone, unwanted()...)
	lacks(t, x, api.ErrRange, noIrqs...)
	holds(t, "refused", x, want)
}

// TestWhatIsRaisedWhileMasked: it waits till it is not masked any more, and is cleared once, however often it was raised.
func TestWhatIsRaisedWhileMasked(t *testing.T) {
	for n := range api.MaxIrqs {
		for _, times := range []int{1, 2, 300} {
			x := made(t, 2)
			answers(t, "Request", x.Request(n, 3), api.OK)
			answers(t, "Raise", x.Raise(n), api.OK)
			answers(t, "Hush", x.Hush(n), api.OK)
			for range times {
				answers(t, "Raise", x.Raise(n), api.OK)
				answers(t, "Clear", x.Clear(n), api.ErrEmpty)
			}
			holds(t, "masked", x, map[int]irq.Irq{n: {Wanted: true, Masked: true, Pending: true, Mask: 3}})
			answers(t, "Unhush", x.Unhush(n), api.OK)
			holds(t, "ready", x, map[int]irq.Irq{n: {Wanted: true, Pending: true, Mask: 3}})
			answers(t, "Clear", x.Clear(n), api.OK)
			answers(t, "Clear", x.Clear(n), api.ErrEmpty)
			holds(t, "cleared", x, map[int]irq.Irq{n: {Wanted: true, Mask: 3}})
		}
	}
}

func TestWhatGetTellsIsTheCallersOwn(t *testing.T) {
	x, want := mixed(t)
	for n := range want {
		one, _ := x.Get(n)
		one.Wanted, one.Masked, one.Pending, one.Mask = false, !one.Masked, !one.Pending, 2
	}
	holds(t, "written into", x, want)
	kept, _ := x.Get(7)
	answers(t, "Aim", x.Aim(7, 3), api.OK)
	answers(t, "Clear", x.Clear(7), api.OK)
	if kept != want[7] {
		t.Errorf("what was told is %+v after a call", kept)
	}
}

func TestListIsTheCallersOwn(t *testing.T) {
	x, want := mixed(t)
	one, two := x.List(), x.List()
	for i := range one {
		one[i] = 99
	}
	_ = append(one[:1], 98, 97, 96)
	_ = append(two, 95)
	if !slices.Equal(two, []int{0, 7, 8, 15}) {
		t.Errorf("another List is %v after one was written into", two)
	}
	holds(t, "written into", x, want)
	answers(t, "Free", x.Free(0), api.OK)
	if !slices.Equal(two, []int{0, 7, 8, 15}) {
		t.Errorf("a List is %v after a call", two)
	}
}

func TestTablesShareNothing(t *testing.T) {
	one, want := mixed(t)
	two, other := mixed(t)
	answers(t, "Free", two.Free(15), api.OK)
	answers(t, "Aim", two.Aim(0, 2), api.OK)
	answers(t, "Clear", two.Clear(7), api.OK)
	answers(t, "Unhush", two.Unhush(8), api.OK)
	delete(other, 15)
	other[0] = irq.Irq{Wanted: true, Masked: true, Mask: 2}
	other[7] = irq.Irq{Wanted: true, Mask: 4}
	other[8] = irq.Irq{Wanted: true, Pending: true, Mask: 6}
	holds(t, "one", one, want)
	holds(t, "two", two, other)
}

func TestNilTable(t *testing.T) {
	var x *irq.Table
	lacks(t, x, api.ErrNil, append([]int{0, 3, 15}, noIrqs...)...)
	if l := x.List(); len(l) != 0 {
		t.Errorf("List() = %v", l)
	}
}

// TestTableThatNewDidNotMake: nothing panics, whatever was handed in.
func TestTableThatNewDidNotMake(t *testing.T) {
	x := &irq.Table{}
	for n := range api.MaxIrqs {
		refuses(t, x, api.ErrNone, n)
		for _, m := range []mask.Mask{0, 1, all} {
			answers(t, "Request", x.Request(n, m), api.ErrArg)
		}
	}
	lacks(t, x, api.ErrRange, noIrqs...)
	holds(t, "of no cores", x, nil)
}

// plain is what a table must be: the interrupts that are wanted, by number.
type plain struct {
	cpus int
	irqs map[int]irq.Irq
}

func (p *plain) canBe(m mask.Mask) bool {
	return m != 0 && (p.cpus == 64 || m < 1<<p.cpus)
}

func (p *plain) request(n int, m mask.Mask) api.Errno {
	switch {
	case n < 0 || n > 15:
		return api.ErrRange
	case p.irqs[n].Wanted:
		return api.ErrState
	case !p.canBe(m):
		return api.ErrArg
	}
	p.irqs[n] = irq.Irq{Wanted: true, Mask: m}
	return api.OK
}

// change is what a call does to an interrupt that is wanted.
func (p *plain) change(n int, f func(one *irq.Irq) api.Errno) api.Errno {
	if n < 0 || n > 15 {
		return api.ErrRange
	}
	one, is := p.irqs[n]
	if !is {
		return api.ErrNone
	}
	why := f(&one)
	p.irqs[n] = one
	return why
}

func (p *plain) free(n int) api.Errno {
	why := p.change(n, func(*irq.Irq) api.Errno { return api.OK })
	delete(p.irqs, n)
	return why
}

func (p *plain) aim(n int, m mask.Mask) api.Errno {
	return p.change(n, func(one *irq.Irq) api.Errno {
		if !p.canBe(m) {
			return api.ErrArg
		}
		one.Mask = m
		return api.OK
	})
}

func (p *plain) hush(n int, masked bool) api.Errno {
	return p.change(n, func(one *irq.Irq) api.Errno {
		if one.Masked == masked {
			return api.ErrState
		}
		one.Masked = masked
		return api.OK
	})
}

func (p *plain) raise(n int) api.Errno {
	return p.change(n, func(one *irq.Irq) api.Errno {
		one.Pending = true
		return api.OK
	})
}

func (p *plain) clear(n int) api.Errno {
	return p.change(n, func(one *irq.Irq) api.Errno {
		if !one.Pending || one.Masked {
			return api.ErrEmpty
		}
		one.Pending = false
		return api.OK
	})
}

// TestMixedRuns holds long runs of all calls against a plain table.
func TestMixedRuns(t *testing.T) {
	state := uint64(15)
	below := func(n int) int {
		state = state*6364136223846793005 + 1442695040888963407
		return int((state >> 33) % uint64(n))
	}
	for _, cpus := range []int{1, 2, 3, 8, 63, 64} {
		x, p := made(t, cpus), &plain{cpus, map[int]irq.Irq{}}
		for range 4000 {
			n, m := below(18)-1, mask.Of(below(cpus), below(cpus))
			if below(5) == 0 {
				m = mask.Mask(uint64(below(4)) << below(63))
			}
			switch below(9) {
			case 0, 1:
				answers(t, "Request", x.Request(n, m), p.request(n, m))
			case 2:
				answers(t, "Free", x.Free(n), p.free(n))
			case 3:
				answers(t, "Aim", x.Aim(n, m), p.aim(n, m))
			case 4:
				answers(t, "Hush", x.Hush(n), p.hush(n, true))
			case 5:
				answers(t, "Unhush", x.Unhush(n), p.hush(n, false))
			case 6, 7:
				answers(t, "Raise", x.Raise(n), p.raise(n))
			default:
				answers(t, "Clear", x.Clear(n), p.clear(n))
			}
			holds(t, "mixed", x, p.irqs)
		}
	}
}
