package route_test

import (
	"math"
	"slices"
	"testing"

	"davit/api"
	"davit/mask"
	"davit/route"
)

// noCounts are no numbers of cores that there may be, noIrqs numbers that no interrupt has.
var (
	noCounts = []int{math.MinInt, -1 << 32, -64, -1, 0, 65, 66, 128, 1 << 32, 1<<32 + 1, math.MaxInt}
	noIrqs   = []int{math.MinInt, -1 << 32, -16, -1, 16, 17, 32, 64, 1 << 32, 1<<32 + 3, math.MaxInt}
)

// noCores are numbers that no core has, where there are so many.
func noCores(cpus int) []int {
	return []int{cpus, cpus + 1, 64, 65, 1 << 32, 1<<32 + 1, math.MaxInt, -1, -cpus, -64, -1 << 32, math.MinInt}
}

func made(t *testing.T, cpus int) *route.Route {
	t.Helper()
	r, why := route.New(cpus)
	if why != api.OK || r == nil {
		t.Fatalf("New(%d) = %v, %d", cpus, r, why)
	}
	return r
}

func answers(t *testing.T, what string, why, want api.Errno) {
	t.Helper()
	if why != want {
		t.Fatalf("%s = %d, want %d", what, why, want)
	}
}

// holds says by each call that only looks that these interrupts go to these cores, and the others to none.
func holds(t *testing.T, what string, r *route.Route, cpus int, want map[int]int) {
	t.Helper()
	on, cores := make([][]int, cpus), mask.Mask(0)
	for n := range api.MaxIrqs {
		cpu, there := want[n]
		if there {
			on[cpu] = append(on[cpu], n)
			cores |= 1 << cpu
		}
		if c, has := r.Of(n); c != cpu || has != there {
			t.Fatalf("%s: Of(%d) = %d, %v, want %d, %v", what, n, c, has, cpu, there)
		}
	}
	for cpu := range cpus {
		if l := r.On(cpu); !slices.Equal(l, on[cpu]) {
			t.Fatalf("%s: On(%d) = %v, want %v", what, cpu, l, on[cpu])
		}
	}
	if r.Cores() != cores {
		t.Fatalf("%s: Cores() = %b, want %b", what, uint64(r.Cores()), uint64(cores))
	}
}

// lacks says that there are no such interrupts, whatever core is told.
func lacks(t *testing.T, r *route.Route, want api.Errno, numbers ...int) {
	t.Helper()
	for _, n := range numbers {
		for _, cpu := range []int{0, 1, 63, 64, -1, math.MaxInt, math.MinInt} {
			answers(t, "Set", r.Set(n, cpu), want)
		}
		answers(t, "Off", r.Off(n), want)
		if cpu, has := r.Of(n); cpu != 0 || has {
			t.Fatalf("Of(%d) = %d, %v", n, cpu, has)
		}
	}
}

// refusesCores says that there are no such cores, for any interrupt.
func refusesCores(t *testing.T, r *route.Route, cpus ...int) {
	t.Helper()
	for _, cpu := range cpus {
		for n := range api.MaxIrqs {
			answers(t, "Set", r.Set(n, cpu), api.ErrRange)
		}
		if l := r.On(cpu); len(l) != 0 {
			t.Fatalf("On(%d) = %v", cpu, l)
		}
	}
}

// four is a route of three cores in which four interrupts have a core, and these cores.
func four(t *testing.T) (*route.Route, map[int]int) {
	t.Helper()
	r, want := made(t, 3), map[int]int{15: 2, 0: 0, 9: 2, 4: 0}
	for _, n := range []int{15, 4, 9, 0} {
		answers(t, "Set", r.Set(n, want[n]), api.OK)
	}
	holds(t, "four", r, 3, want)
	return r, want
}

func TestNewTellsHowManyCoresThereMayBe(t *testing.T) {
	for _, cpus := range noCounts {
		if r, why := route.New(cpus); r != nil || why != api.ErrArg {
			t.Errorf("New(%d) = %v, %d, want nil, %d", cpus, r, why, api.ErrArg)
		}
	}
	for cpus := 1; cpus <= api.MaxCpu; cpus++ {
		r := made(t, cpus)
		holds(t, "new", r, cpus, nil)
		for n := range api.MaxIrqs {
			answers(t, "Off", r.Off(n), api.ErrNone)
		}
		lacks(t, r, api.ErrRange, noIrqs...)
		refusesCores(t, r, noCores(cpus)...)
		holds(t, "refused", r, cpus, nil)
		answers(t, "Set", r.Set(1, cpus-1), api.OK)
		holds(t, "the last core", r, cpus, map[int]int{1: cpus - 1})
	}
}

func TestRouteOfTheDocument(t *testing.T) {
	r := made(t, 2)
	answers(t, "Set", r.Set(3, 1), api.OK)
	answers(t, "Set", r.Set(5, 1), api.OK)
	answers(t, "Set", r.Set(3, 0), api.OK)
	if l := r.On(1); !slices.Equal(l, []int{5}) {
		t.Errorf("On(1) = %v, want 5", l)
	}
	holds(t, "the document's", r, 2, map[int]int{3: 0, 5: 1})
}

func TestSet(t *testing.T) {
	r, want := made(t, 64), map[int]int{}
	for i := range api.MaxIrqs {
		// Not in the order of their numbers: On rises though.
		n := (i*5 + 9) % api.MaxIrqs
		answers(t, "Set", r.Set(n, n%3*31), api.OK)
		want[n] = n % 3 * 31
		holds(t, "set", r, 64, want)
	}
	// The core where it is already is as good as another one.
	for n := range api.MaxIrqs {
		answers(t, "Set", r.Set(n, want[n]), api.OK)
		holds(t, "set again", r, 64, want)
	}
	for cpu := range 64 {
		for n := range api.MaxIrqs {
			answers(t, "Set", r.Set(n, cpu), api.OK)
			want[n] = cpu
			holds(t, "on to the next", r, 64, want)
		}
		if r.Cores() != mask.Of(cpu) {
			t.Fatalf("Cores() = %b, want that of %d", uint64(r.Cores()), cpu)
		}
	}
}

func TestSetThatIsRefused(t *testing.T) {
	r, want := four(t)
	lacks(t, r, api.ErrRange, noIrqs...)
	refusesCores(t, r, noCores(3)...)
	holds(t, "refused", r, 3, want)
	wide := made(t, 64)
	answers(t, "Set", wide.Set(15, 63), api.OK)
	refusesCores(t, wide, noCores(64)...)
	holds(t, "refused", wide, 64, map[int]int{15: 63})
}

func TestOff(t *testing.T) {
	r, want := four(t)
	for _, n := range []int{1, 2, 3, 5, 6, 7, 8, 10, 11, 12, 13, 14} {
		answers(t, "Off", r.Off(n), api.ErrNone)
	}
	lacks(t, r, api.ErrRange, noIrqs...)
	holds(t, "refused", r, 3, want)
	for _, n := range []int{15, 0, 4, 9} {
		answers(t, "Off", r.Off(n), api.OK)
		delete(want, n)
		holds(t, "off", r, 3, want)
		answers(t, "Off", r.Off(n), api.ErrNone)
		holds(t, "off still", r, 3, want)
	}
	for _, n := range []int{9, 15} {
		answers(t, "Set", r.Set(n, 1), api.OK)
		want[n] = 1
		holds(t, "on again", r, 3, want)
	}
}

// TestNoneIsNotTheFirstCore: an interrupt without a core is not one of core 0, nor of a number below it.
func TestNoneIsNotTheFirstCore(t *testing.T) {
	r := made(t, 2)
	answers(t, "Set", r.Set(2, 0), api.OK)
	holds(t, "one of core 0", r, 2, map[int]int{2: 0})
	answers(t, "Off", r.Off(2), api.OK)
	holds(t, "none", r, 2, nil)
	for cpu := -3; cpu < 3; cpu++ {
		if l := r.On(cpu); len(l) != 0 {
			t.Errorf("On(%d) = %v", cpu, l)
		}
	}
}

func TestOnIsTheCallersOwn(t *testing.T) {
	r, want := four(t)
	one, two := r.On(2), r.On(2)
	for i := range one {
		one[i] = 99
	}
	_ = append(one[:1], 98, 97, 96)
	_ = append(two, 95)
	if !slices.Equal(two, []int{9, 15}) {
		t.Errorf("another On is %v after one was written into", two)
	}
	holds(t, "written into", r, 3, want)
	answers(t, "Off", r.Off(9), api.OK)
	if !slices.Equal(two, []int{9, 15}) {
		t.Errorf("an On is %v after a call", two)
	}
}

func TestRoutesShareNothing(t *testing.T) {
	one, want := four(t)
	two, other := four(t)
	answers(t, "Off", two.Off(0), api.OK)
	answers(t, "Set", two.Set(15, 1), api.OK)
	delete(other, 0)
	other[15] = 1
	holds(t, "one", one, 3, want)
	holds(t, "two", two, 3, other)
}

// empty says that no interrupt goes to any core.
func empty(t *testing.T, r *route.Route) {
	t.Helper()
	for _, cpu := range append([]int{0, 1, 63}, noCores(1)...) {
		if l := r.On(cpu); len(l) != 0 {
			t.Errorf("On(%d) = %v", cpu, l)
		}
	}
	if r.Cores() != 0 {
		t.Errorf("Cores() = %b", uint64(r.Cores()))
	}
}

func TestNilRoute(t *testing.T) {
	var r *route.Route
	lacks(t, r, api.ErrNil, append([]int{0, 3, 15}, noIrqs...)...)
	empty(t, r)
}

// TestRouteThatNewDidNotMake: nothing panics, whatever was handed in.
func TestRouteThatNewDidNotMake(t *testing.T) {
	r := &route.Route{}
	refusesCores(t, r, append([]int{0, 1, 63}, noCores(1)...)...)
	lacks(t, r, api.ErrRange, noIrqs...)
	for n := range api.MaxIrqs {
		answers(t, "Off", r.Off(n), api.ErrNone)
	}
	empty(t, r)
}

// TestMixedRuns holds long runs against a map of the interrupts' cores; each interrupt goes to one core at most.
func TestMixedRuns(t *testing.T) {
	state := uint64(16)
	below := func(n int) int {
		state = state*6364136223846793005 + 1442695040888963407
		return int((state >> 33) % uint64(n))
	}
	for _, cpus := range []int{1, 2, 3, 8, 63, 64} {
		r, want := made(t, cpus), map[int]int{}
		for range 3000 {
			n, cpu := below(18)-1, below(cpus+2)-1
			isIrq := n >= 0 && n < 16
			_, has := want[n]
			switch set := below(3) > 0; {
			case set && isIrq && cpu >= 0 && cpu < cpus:
				answers(t, "Set", r.Set(n, cpu), api.OK)
				want[n] = cpu
			case set:
				answers(t, "Set", r.Set(n, cpu), api.ErrRange)
			case !isIrq:
				answers(t, "Off", r.Off(n), api.ErrRange)
			case !has:
				answers(t, "Off", r.Off(n), api.ErrNone)
			default:
				answers(t, "Off", r.Off(n), api.OK)
				delete(want, n)
			}
			holds(t, "mixed", r, cpus, want)
			once(t, r, cpus, len(want))
		}
	}
}

// once says that of all cores together no interrupt is told twice, and so many are told.
func once(t *testing.T, r *route.Route, cpus, many int) {
	t.Helper()
	var told []int
	for cpu := range cpus {
		told = append(told, r.On(cpu)...)
	}
	slices.Sort(told)
	if len(told) != many || len(slices.Compact(told)) != many {
		t.Fatalf("%v go to cores, want %d, each one once", told, many)
	}
}
