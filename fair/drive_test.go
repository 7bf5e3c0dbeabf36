package fair_test

import (
	"math"
	"reflect"
	"slices"
	"testing"

	"davit/api"
	"davit/fair"
	"davit/kernel"
	"davit/mask"
)

// drives says what Drive of a kernel is, and of one that is the same.
func drives(t *testing.T, k, twin *kernel.Kernel, picks []int, n int, why api.Errno) {
	t.Helper()
	was := slices.Clone(picks)
	if got, e := fair.Drive(k, picks...); got != n || e != why {
		t.Fatalf("Drive = %d, %d, want %d, %d", got, e, n, why)
	}
	if got, e := plainDrive(twin, picks); got != n || e != why {
		t.Fatalf("the plain one = %d, %d, want %d, %d", got, e, n, why)
	}
	if !reflect.DeepEqual(k, twin) {
		t.Fatal("Drive does something else than steps")
	}
	if !slices.Equal(picks, was) {
		t.Fatal("the picks are changed")
	}
}

// P36.2: of nil, with no picks, and where nothing waits.
func TestDriveOfNothing(t *testing.T) {
	for _, picks := range [][]int{nil, {}, {0}, {0, 1, -1}, inTurn(2, 500)} {
		if n, why := fair.Drive(nil, picks...); n != 0 || why != api.ErrNil {
			t.Errorf("Drive of nil = %d, %d", n, why)
		}
		drives(t, made(t, 2), made(t, 2), picks, 0, api.OK)
		// Threads that are awake, and timers that are not due, are nothing that waits.
		l := []api.Ev{{Kind: api.EvSpawn, Id: 3, Mask: 3}, {Kind: api.EvArm, N: 4}, {Kind: api.EvTick, N: 3}}
		drives(t, after(t, 2, l...), after(t, 2, l...), picks, 0, api.OK)
	}
	if n, why := fair.Drive(nil); n != 0 || why != api.ErrNil {
		t.Errorf("Drive of nil = %d, %d", n, why)
	}
	call := api.Ev{Kind: api.EvCall}
	drives(t, after(t, 2, call), after(t, 2, call), nil, 0, api.ErrBusy)
	if n, why := fair.Drive(after(t, 2, call)); n != 0 || why != api.ErrBusy {
		t.Errorf("Drive = %d, %d", n, why)
	}
}

// P36.2: picks that end too early, just in time, and later.
func TestDriveEnds(t *testing.T) {
	for _, c := range []struct {
		l     []api.Ev
		picks []int
		want  int // how many picks it takes; 0: there are too few
	}{
		{[]api.Ev{{Kind: api.EvCall}}, []int{0, 0, 0}, 1},
		{[]api.Ev{{Kind: api.EvCall, Cpu: 1}}, []int{0, 0, 1, 0}, 3},
		{[]api.Ev{{Kind: api.EvCall, Cpu: 1}}, []int{0, 0, 0, 0}, 0},
		{[]api.Ev{{Kind: api.EvQueue, Cpu: -1}}, []int{1, 0}, 1},
		{[]api.Ev{{Kind: api.EvQueue, Cpu: 1}, {Kind: api.EvQueue, Cpu: -1}, {Kind: api.EvCall, Cpu: 0}}, []int{0, 0, 0, 1, 1}, 4},
		{[]api.Ev{{Kind: api.EvStep, Cpu: 1}, {Kind: api.EvCall, Cpu: 1}}, []int{1, 1, 1}, 2}, // it wakes
		{[]api.Ev{{Kind: api.EvArm, N: 0}, {Kind: api.EvArm, Cpu: 1, N: 0}, {Kind: api.EvArm, N: 9}}, []int{0, 0, 0, 1}, 4},
		{[]api.Ev{{Kind: api.EvRequest, Id: 2, Mask: 2}, {Kind: api.EvRaise, Id: 2}}, []int{0, 1}, 2},
		// Picks of no cores are refused, and take their turns.
		{[]api.Ev{{Kind: api.EvCall}}, []int{-1, 2, 64, math.MinInt, math.MaxInt, 0, 0}, 6},
		{[]api.Ev{{Kind: api.EvCall}}, []int{-1, -1, 2, 3}, 0},
		{[]api.Ev{{Kind: api.EvQueue, Cpu: -1}}, []int{-1, 1}, 2},
		// A thread that wakes does not run: nothing waits then.
		{[]api.Ev{{Kind: api.EvSpawn, Mask: 1}, {Kind: api.EvSleep, Id: 1, N: 2}, {Kind: api.EvTick, N: 2}}, []int{0, 0, 0}, 1},
		// A core that goes has ten stages: one step for each, one more for the stop, and its own one.
		{[]api.Ev{{Kind: api.EvOffline, Cpu: 1}}, append(slices.Repeat([]int{0}, 7), 1, 0, 0, 0, 0, 0), 12},
		{[]api.Ev{{Kind: api.EvOffline, Cpu: 1}}, inTurn(1, 300), 0},
		// It fails at once, and there is nothing to undo.
		{[]api.Ev{{Kind: api.EvFail}, {Kind: api.EvOffline, Cpu: 0}}, []int{0, 1, 1}, 2},
		{[]api.Ev{{Kind: api.EvFail, N: 1}, {Kind: api.EvOffline, Cpu: 0}}, []int{1, 1, 1, 1, 1}, 3},
		// A reader keeps it waiting.
		{[]api.Ev{{Kind: api.EvHold}, {Kind: api.EvOffline, Cpu: 1}}, inTurn(2, 1500), 0},
	} {
		for size := range len(c.picks) + 1 {
			n, why := c.want, api.OK
			if c.want == 0 || c.want > size {
				n, why = size, api.ErrBusy
			}
			drives(t, after(t, 2, c.l...), after(t, 2, c.l...), c.picks[:size:size], n, why)
			if len(c.picks) > 50 && size > 3 {
				break
			}
		}
		if c.want == 0 {
			drives(t, after(t, 2, c.l...), after(t, 2, c.l...), c.picks, len(c.picks), api.ErrBusy)
		}
	}
}

// Drive goes on from where it was.
func TestDriveGoesOn(t *testing.T) {
	k := after(t, 3, api.Ev{Kind: api.EvQueue, Cpu: 1}, api.Ev{Kind: api.EvCall, Cpu: 2}, api.Ev{Kind: api.EvOffline, Cpu: 1})
	steps := 0
	for range 100 {
		n, why := fair.Drive(k, 0, 1, 2)
		steps += n
		if why == api.OK {
			break
		}
		if n != 3 || why != api.ErrBusy || fair.Still(k) {
			t.Fatalf("Drive = %d, %d", n, why)
		}
	}
	if !fair.Still(k) || k.Online() != 5 || steps < 12 || steps > 60 {
		t.Error(steps, k.Online())
	}
	if n, why := fair.Drive(k, 0, 1, 2); n != 0 || why != api.OK {
		t.Errorf("Drive = %d, %d", n, why)
	}
}

// P36.2 of any kernels and any picks, against the plain one.
func TestDriveOfScripts(t *testing.T) {
	many := map[api.Errno]int{}
	for _, cpus := range []int{1, 2, 3, 5, 64} {
		roll := rolls(uint64(362 + cpus))
		k, twin := made(t, cpus), made(t, cpus)
		for range 120 {
			for range roll(40) {
				e := anyEvent(roll, cpus, 3)
				k.Do(e)
				twin.Do(e)
			}
			picks := make([]int, roll(150))
			for at := range picks {
				picks[at] = roll(cpus+1) - roll(2)
			}
			n, why := plainDrive(twin, picks)
			many[why]++
			if got, e := fair.Drive(k, picks...); got != n || e != why {
				t.Fatalf("Drive = %d, %d, want %d, %d", got, e, n, why)
			}
		}
		if !reflect.DeepEqual(k, twin) {
			t.Fatal("Drive does something else than steps")
		}
	}
	if many[api.OK] < 40 || many[api.ErrBusy] < 40 {
		t.Error(many)
	}
}

// drop lets all readers leave.
func drop(k *kernel.Kernel) {
	for cpu := range k.Cpus() {
		for k.Gate().On(cpu) > 0 {
			k.Do(api.Ev{Kind: api.EvDrop, Cpu: cpu})
		}
	}
}

// bounded says that picks that are fair are enough, and how many windows they took.
func bounded(t *testing.T, k *kernel.Kernel, picks []int, window int) int {
	t.Helper()
	if !fair.Fair(picks, mask.Upto(k.Cpus()), window) || len(picks) != fair.Bound(window) {
		t.Fatalf("%d picks are not fair in windows of %d", len(picks), window)
	}
	n, why := fair.Drive(k, picks...)
	if why != api.OK || !plainStill(k) {
		t.Fatalf("%d cores, windows of %d: Drive = %d, %d", k.Cpus(), window, n, why)
	}
	return n / window
}

// tops are the threads that are awake, and in whose core's queue none has a greater priority.
func tops(k *kernel.Kernel) []int {
	var l []int
	for _, id := range k.Threads().List() {
		one, _ := k.Threads().Get(id)
		top := !one.Sleeps
		for _, other := range k.Threads().List() {
			if o, _ := k.Threads().Get(other); !o.Sleeps && o.Cpu == one.Cpu && o.Prio > one.Prio {
				top = false
			}
		}
		if top {
			l = append(l, id)
		}
	}
	return l
}

// run says that each thread that must run within 34 windows does.
func run(t *testing.T, k *kernel.Kernel, picks []int, window int) int {
	t.Helper()
	if !fair.Fair(picks, mask.Upto(k.Cpus()), window) || !fair.Still(k) || len(picks) < 34*window {
		t.Fatal("no fair picks")
	}
	must, ran := tops(k), map[int]int{}
	for _, cpu := range picks[:34*window] {
		for _, r := range k.Do(api.Ev{Kind: api.EvStep, Cpu: cpu}) {
			if r.Kind == api.RecRun {
				ran[r.Id]++
			}
		}
	}
	for _, id := range must {
		if ran[id] == 0 {
			t.Fatalf("%d cores, windows of %d: the thread %d of %v does not run", k.Cpus(), window, id, must)
		}
	}
	return len(must)
}

// fairs are picks of all kinds that are fair in windows of a size.
func fairs(roll func(n int) int, cpus int) ([]int, int) {
	window := cpus + []int{0, 1, 3, 40}[roll(4)]
	switch roll(4) {
	case 0:
		return inTurn(cpus, fair.Bound(window)), window
	case 1:
		return shuffled(roll, cpus, fair.Bound(2*cpus-1)), 2*cpus - 1
	case 2:
		if cpus < 8 && window < cpus+40 {
			return late(roll, cpus, window, fair.Bound(window)), window
		}
	}
	return favoured(cpus, window, roll(cpus), fair.Bound(window)), window
}

// P36.3 and P36.4, over long runs.
func TestFairIsEnough(t *testing.T) {
	windows, ran := 0, 0
	for _, c := range []struct{ cpus, rounds int }{{1, 60}, {2, 120}, {3, 120}, {5, 80}, {17, 30}, {64, 15}} {
		roll := rolls(uint64(363 + c.cpus))
		k := made(t, c.cpus)
		for range c.rounds {
			for range 20 + roll(200) {
				k.Do(anyEvent(roll, c.cpus, roll(6)))
			}
			drop(k)
			k.Do(api.Ev{Kind: []int{api.EvOnline, api.EvOffline}[roll(2)], Cpu: roll(c.cpus)})
			picks, window := fairs(roll, c.cpus)
			windows = max(windows, bounded(t, k, picks, window))
			picks, window = fairs(roll, c.cpus)
			ran += run(t, k, picks, window)
		}
	}
	if windows < 20 || ran < 1000 {
		t.Error(windows, ran)
	}
}

// full has all lists full of what is on one core, most of it due, and that core goes.
func full(t *testing.T, cpus, cpu int, fails int64) *kernel.Kernel {
	k := made(t, cpus)
	this := uint64(1) << cpu
	do := func(e api.Ev, many int) {
		for range many {
			k.Do(e)
		}
	}
	do(api.Ev{Kind: api.EvSpawn, Id: 3, Mask: this}, 32)
	for id := range 16 {
		do(api.Ev{Kind: api.EvSleep, Id: id + 1, N: int64(id % 3)}, 1)
		do(api.Ev{Kind: api.EvRequest, Id: id, Mask: this}, 1)
		do(api.Ev{Kind: api.EvRaise, Id: id}, 1)
	}
	do(api.Ev{Kind: api.EvArm, Cpu: cpu, N: 1}, 32)
	do(api.Ev{Kind: api.EvQueue, Cpu: cpu}, 32)
	do(api.Ev{Kind: api.EvCall, Cpu: cpu}, 32)
	do(api.Ev{Kind: api.EvAlloc, Cpu: cpu}, 96)
	do(api.Ev{Kind: api.EvTick, N: 2}, 1)
	if fails >= 0 {
		do(api.Ev{Kind: api.EvFail, N: fails}, 1)
	}
	do(api.Ev{Kind: api.EvOffline, Cpu: cpu}, 1)
	return k
}

// P36.3 and P36.4 where as much waits as can be.
func TestFullKernels(t *testing.T) {
	roll := rolls(3630)
	for _, c := range []struct{ cpus, cpu int }{{1, 0}, {2, 0}, {2, 1}, {3, 2}, {64, 63}} {
		for fails := int64(-1); fails < 10; fails++ {
			for range 3 {
				k := full(t, c.cpus, c.cpu, fails)
				picks, window := fairs(roll, c.cpus)
				if n := bounded(t, k, picks, window); n > 500 {
					t.Error(n)
				}
				if all := 32; len(k.Threads().List()) != all {
					t.Fatal("threads", k.Threads().List())
				}
				picks, window = fairs(roll, c.cpus)
				run(t, k, picks, window)
				// They come again, and all cores rest ahead of that.
				k.Do(api.Ev{Kind: api.EvOnline, Cpu: c.cpu})
				picks, window = fairs(roll, c.cpus)
				bounded(t, k, picks, window)
				picks, window = fairs(roll, c.cpus)
				if n := run(t, k, picks, window); n < 32 {
					t.Errorf("of the greatest priority are %d", n)
				}
			}
		}
	}
}

// P36.4 of 32 threads on a core that rests: it wakes, and each one runs.
func TestThreadsOfOneCore(t *testing.T) {
	for _, cpus := range []int{1, 2, 64} {
		for _, window := range []int{cpus, cpus + 5} {
			k := made(t, cpus)
			cpu := cpus - 1
			k.Do(api.Ev{Kind: api.EvStep, Cpu: cpu})
			for range 32 {
				k.Do(api.Ev{Kind: api.EvSpawn, Id: 7, Mask: 1 << cpu})
			}
			if n := run(t, k, favoured(cpus, window, 0, 34*window), window); n != 32 {
				t.Error("threads", n)
			}
		}
	}
}
