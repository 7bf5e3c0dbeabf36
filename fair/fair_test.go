package fair_test

import (
	"math"
	"reflect"
	"slices"
	"testing"

	"davit/api"
	"davit/fair"
	"davit/kernel"
	"davit/mask"
)

// P36.1: picks of none, one and many cores, and windows of all sizes.
func TestFair(t *testing.T) {
	for n, c := range []struct {
		picks  []int
		of     mask.Mask
		window int
		want   bool
	}{
		// Example 1.
		{[]int{0, 1, 1, 0}, 3, 2, false},
		{[]int{0, 1, 1, 0}, 3, 3, true}, {[]int{0, 1, 0, 1}, 3, 2, true}, {[]int{0, 1, 1, 0}, 3, 4, true}, {[]int{0, 1, 1, 0}, 3, 5, true}, {[]int{0, 1, 1, 0}, 3, 1, false},
		// No picks, and windows longer than all picks.
		{nil, 3, 1, true}, {nil, 0, 1, true}, {nil, 1 << 63, math.MaxInt, true}, {[]int{}, 3, 2, true}, {[]int{0}, 3, 2, true}, {[]int{5}, 3, 2, true}, {[]int{0, 0, 0}, 3, 4, true}, {[]int{0, 0, 0}, 3, math.MaxInt, true}, {[]int{0, 0, 0}, 3, 1 << 32, true},
		// Windows as long as the picks.
		{[]int{0}, 1, 1, true}, {[]int{0}, 3, 1, false}, {[]int{0, 0, 0}, 3, 3, false}, {[]int{0, 0, 1}, 3, 3, true}, {[]int{1, 0, 0}, 3, 3, true}, {[]int{0, 1, 0}, 3, 3, true}, {[]int{0, 2, 0}, 3, 3, false},
		// Windows of 1.
		{[]int{1, 1, 1}, 2, 1, true}, {[]int{1, 0, 1}, 2, 1, false}, {[]int{0, 1, 1}, 2, 1, false}, {[]int{1, 1, 0}, 2, 1, false}, {[]int{0, 1}, 3, 1, false}, {[]int{7}, 0, 1, true},
		// Windows below 1.
		{[]int{0}, 1, 0, false}, {[]int{0}, 1, -1, false}, {nil, 0, 0, false}, {nil, 1, -1, false}, {[]int{0, 1}, 3, math.MinInt, false}, {nil, 0, math.MinInt, false}, {[]int{0, 1}, 0, -2, false},
		// A core is missing in the first, a middle, the last window.
		{[]int{1, 1, 0, 1, 0, 1}, 3, 2, false}, {[]int{0, 1, 1, 0, 1, 0}, 3, 2, false}, {[]int{0, 1, 0, 1, 0, 0}, 3, 2, false}, {[]int{0, 1, 0, 1, 0, 1}, 3, 2, true},
		{[]int{1, 2, 2, 0, 1, 2}, 7, 3, false}, {[]int{0, 1, 2, 0, 2, 0, 1, 2}, 7, 3, false}, {[]int{0, 1, 2, 0, 1, 1}, 7, 3, false}, {[]int{0, 1, 2, 0, 1, 2}, 7, 3, true}, {[]int{2, 1, 0, 2, 1, 0, 2}, 7, 3, true},
		// Each core is in each second window, and not in the one that overlaps them.
		{[]int{0, 1, 2, 2, 1, 0}, 7, 3, false}, {[]int{0, 1, 2, 2, 1, 0}, 7, 4, false}, {[]int{0, 1, 2, 2, 1, 0}, 7, 5, true}, {[]int{0, 1, 1, 0, 0, 1}, 3, 2, false},
		// Cores beyond the mask, and numbers that are no cores.
		{[]int{0, 9, 0, 8, 0}, 1, 2, true}, {[]int{0, 9, 9, 0}, 1, 2, false}, {[]int{5, 5}, 0, 1, true}, {[]int{-1, 64, 65, math.MinInt, math.MaxInt}, 0, 1, true}, {[]int{-1, 64, 128, 1 << 32, -64}, 1, 1, false}, {[]int{-64, 64, 128, 1 << 32, 1 << 40}, 1, 5, false}, {[]int{0, -1, 0, 64, 0}, 1, 2, true}, {[]int{-1, 0, 64, -1}, 1, 2, false}, {[]int{-1, 0, 64, 0, 7, 0}, 1, 2, true},
		// Core 63.
		{[]int{63}, 1 << 63, 1, true}, {[]int{63, 0, 63}, 1 << 63, 2, true}, {[]int{63, 0, 0, 63}, 1 << 63, 2, false}, {[]int{127, -1, 64}, 1 << 63, 3, false}, {[]int{62}, 1 << 63, 1, false}, {[]int{0, 63, 0, 63}, 1<<63 + 1, 2, true}, {[]int{0}, math.MaxUint64, 1, false},
		{inTurn(64, 640), math.MaxUint64, 64, true}, {inTurn(64, 640), math.MaxUint64, 63, false}, {inTurn(63, 640), math.MaxUint64, 640, false}, {inTurn(64, 63), math.MaxUint64, 63, false}, {inTurn(64, 63), math.MaxUint64, 64, true},
	} {
		was := slices.Clone(c.picks)
		if got := fair.Fair(c.picks, c.of, c.window); got != c.want || plainFair(c.picks, c.of, c.window) != got {
			t.Errorf("%d: Fair(%v, %x, %d) = %v", n, c.picks, uint64(c.of), c.window, got)
		}
		if !slices.Equal(c.picks, was) {
			t.Errorf("%d: the picks are changed", n)
		}
	}
}

// P36.1, at any picks, against the plain one.
func TestAnyPicks(t *testing.T) {
	roll := rolls(36)
	fairs := 0
	for range 30000 {
		cpus := 1 + roll(4)
		picks := make([]int, roll(20))
		for at := range picks {
			picks[at] = roll(cpus+2) - 1
			if roll(30) == 0 {
				picks[at] = int(odd[roll(len(odd))])
			}
		}
		of := mask.Mask(roll(1 << cpus))
		window := roll(24) - 1
		got := fair.Fair(picks, of, window)
		if got != plainFair(picks, of, window) {
			t.Fatalf("Fair(%v, %x, %d) = %v", picks, uint64(of), window, got)
		}
		if got && of != 0 && window <= len(picks) {
			fairs++
		}
	}
	if fairs < 1000 {
		t.Error("fair are", fairs)
	}
}

// P36.1: picks that are fair by how they are made, and not any more when a core's turn is another one's.
func TestFairPicks(t *testing.T) {
	roll := rolls(361)
	for _, cpus := range []int{1, 2, 3, 7, 64} {
		all := mask.Upto(cpus)
		for _, more := range []int{0, 1, 5} {
			window := cpus + more
			for name, picks := range map[string][]int{
				"in turn": inTurn(cpus, 900), "favoured": favoured(cpus, window, roll(cpus), 900), "late": late(roll, cpus, window, 400),
			} {
				if !fair.Fair(picks, all, window) || !fair.Fair(picks, all, window+1) || !fair.Fair(picks, all.Less(0), window) {
					t.Errorf("%s: %d cores are not fair in windows of %d", name, cpus, window)
				}
				if cpus == 1 && window == 1 || name != "in turn" {
					continue
				}
				at := roll(len(picks) - 2*window)
				for n := range window {
					if picks[at+n] == 0 {
						picks[at+n] = 99
					}
				}
				if fair.Fair(picks, all, window) || cpus > 1 && !fair.Fair(picks, all.Less(0), window) {
					t.Errorf("%s: %d cores are fair in windows of %d without core 0's turn at %d", name, cpus, window, at)
				}
			}
		}
		picks := shuffled(roll, cpus, 2000)
		if !fair.Fair(picks, all, 2*cpus-1) {
			t.Errorf("shuffled: %d cores", cpus)
		}
	}
}

// Windows of any size are gone over in time that is not too long.
func TestManyPicks(t *testing.T) {
	const window = 10000
	picks := favoured(64, window, 5, fair.Bound(window))
	if !fair.Fair(picks, math.MaxUint64, window) || fair.Fair(picks, math.MaxUint64, window-1) {
		t.Error("Fair")
	}
	picks[len(picks)-window] = 5
	if fair.Fair(picks, math.MaxUint64, window) {
		t.Error("Fair without the last turn")
	}
}

// P36.1.
func TestBound(t *testing.T) {
	for window, want := range map[int]int{1: 500, 2: 1000, 7: 3500, 64: 32000, 127: 63500, 9999: 4999500, 10000: 5000000, 0: 0, -1: 0, -7: 0, 10001: 0, 10002: 0, 20000: 0, 1 << 32: 0, 1<<32 + 7: 0, math.MaxInt: 0, math.MinInt: 0, math.MinInt + 7: 0} {
		if got := fair.Bound(window); got != want {
			t.Errorf("Bound(%d) = %d, want %d", window, got, want)
		}
	}
	if fair.Most != 500 {
		t.Error("Most", fair.Most)
	}
}

// still says whether nothing waits.
func still(t *testing.T, k *kernel.Kernel, want bool) {
	t.Helper()
	if got := fair.Still(k); got != want || plainStill(k) != want {
		t.Errorf("Still = %v", got)
	}
}

// P36.1: each thing that waits, by itself, on the first core and on the last one.
func TestStill(t *testing.T) {
	still(t, nil, false)
	for _, cpus := range []int{1, 2, 3, 64} {
		still(t, made(t, cpus), true)
		for _, cpu := range []int{0, cpus / 2, cpus - 1} {
			this := uint64(1) << cpu
			for n, l := range [][]api.Ev{
				{{Kind: api.EvCall, Cpu: cpu}},
				{{Kind: api.EvQueue, Cpu: cpu}},
				{{Kind: api.EvQueue, Cpu: -1}},
				{{Kind: api.EvArm, Cpu: cpu, N: 0}},
				{{Kind: api.EvArm, Cpu: cpu, N: 5}, {Kind: api.EvTick, N: 5}},
				{{Kind: api.EvArm, Cpu: cpu, N: 5}, {Kind: api.EvArm, Cpu: cpu, N: 2}, {Kind: api.EvTick, N: 3}},
				{{Kind: api.EvSpawn, Mask: this}, {Kind: api.EvSleep, Id: 1}},
				{{Kind: api.EvSpawn, Mask: this}, {Kind: api.EvSleep, Id: 1, N: 7}, {Kind: api.EvTick, N: 9}},
				{{Kind: api.EvRequest, Id: 0, Mask: this}, {Kind: api.EvRaise, Id: 0}},
				{{Kind: api.EvRequest, Id: 15, Mask: this}, {Kind: api.EvRaise, Id: 15}},
				{{Kind: api.EvRequest, Id: 7, Mask: this}, {Kind: api.EvMask, Id: 7}, {Kind: api.EvRaise, Id: 7}, {Kind: api.EvUnmask, Id: 7}},
			} {
				k := after(t, cpus, l...)
				if fair.Still(k) || plainStill(k) {
					t.Errorf("%d: nothing waits on core %d of %d", n, cpu, cpus)
				}
				// Its one step does it.
				k.Do(api.Ev{Kind: api.EvStep, Cpu: cpu})
				if !fair.Still(k) {
					t.Errorf("%d: something waits still on core %d of %d", n, cpu, cpus)
				}
			}
			for n, l := range [][]api.Ev{
				{{Kind: api.EvArm, Cpu: cpu, N: 1}},
				{{Kind: api.EvArm, Cpu: cpu, N: 5}, {Kind: api.EvTick, N: 4}},
				{{Kind: api.EvArm, Cpu: cpu, N: 0}, {Kind: api.EvCancel, Id: 1}},
				{{Kind: api.EvSpawn, Mask: this}},
				{{Kind: api.EvSpawn, Mask: this}, {Kind: api.EvSleep, Id: 1, N: 1}},
				{{Kind: api.EvRequest, Id: 3, Mask: this}},
				{{Kind: api.EvRequest, Id: 3, Mask: this}, {Kind: api.EvMask, Id: 3}, {Kind: api.EvRaise, Id: 3}},
				{{Kind: api.EvRequest, Id: 3, Mask: this}, {Kind: api.EvRaise, Id: 3}, {Kind: api.EvFree, Id: 3}},
				{{Kind: api.EvAlloc, Cpu: cpu}, {Kind: api.EvHold, Cpu: cpu}, {Kind: api.EvFail, N: 3}, {Kind: api.EvTick, N: 9}},
				{{Kind: api.EvStep, Cpu: cpu}},
			} {
				if k := after(t, cpus, l...); !fair.Still(k) || !plainStill(k) {
					t.Errorf("%d: something waits on core %d of %d", n, cpu, cpus)
				}
			}
		}
	}
}

// P36.1: a request waits till it returns, be it of going or of coming, well or not.
func TestStillOfRequests(t *testing.T) {
	for _, fails := range []bool{false, true} {
		k := after(t, 2)
		for _, kind := range []int{api.EvOffline, api.EvOnline} {
			if fails {
				k.Do(api.Ev{Kind: api.EvFail, N: 2})
			}
			k.Do(api.Ev{Kind: kind, Cpu: 1})
			over := false
			for range 40 {
				still(t, k, over || !k.Desk().Busy())
				for cpu := range 2 {
					for _, r := range k.Do(api.Ev{Kind: api.EvStep, Cpu: cpu}) {
						over = over || r.Kind == api.RecHot
					}
				}
			}
			if !over {
				t.Fatal("the request does not return")
			}
			still(t, k, true)
			if fails {
				break
			}
		}
	}
}

// P36.1 at any events, against the plain one; and it changes nothing.
func TestStillOfScripts(t *testing.T) {
	many := map[bool]int{}
	for _, cpus := range []int{1, 2, 3, 64} {
		roll := rolls(uint64(36 + cpus))
		k, twin := made(t, cpus), made(t, cpus)
		for at := range 3000 {
			e := anyEvent(roll, cpus, 8)
			k.Do(e)
			twin.Do(e)
			got := fair.Still(k)
			if got != plainStill(k) {
				t.Fatalf("%d cores, behind %d events: Still = %v", cpus, at, got)
			}
			many[got]++
		}
		if !reflect.DeepEqual(k, twin) {
			t.Error("Still changes the kernel")
		}
	}
	if many[true] < 300 || many[false] < 300 {
		t.Error(many)
	}
}
