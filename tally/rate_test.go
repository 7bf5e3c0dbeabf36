package tally_test

import (
	"math"
	"slices"
	"testing"

	"davit/api"
	"davit/tally"
)

// alike is whether two floats are one answer: the sign of zero counts, and all that are no numbers are one.
func alike(a, b float64) bool {
	return a == b && math.Signbit(a) == math.Signbit(b) || a != a && b != b
}

var nan, above, below, minus = math.NaN(), math.Inf(1), math.Inf(-1), math.Copysign(0, -1)

// otherKinds is kinds of records, and others, that are none of the five.
var otherKinds = []int{api.RecRet, api.RecHot, 0, -1, 8, 9, 100, -2, -3, math.MinInt, math.MinInt + 1, math.MinInt + 2, math.MinInt + 6, math.MaxInt, 1 << 32, 1<<32 + 2, 256 + 3}

// P40.2: Part of each kind, and of those beside them.
func TestPart(t *testing.T) {
	for n, c := range []struct {
		things [5]int64
		want   [5]float64
		other  float64
	}{
		{[5]int64{}, [5]float64{nan, nan, nan, nan, nan}, nan},
		{[5]int64{1}, [5]float64{1}, 0}, {[5]int64{4: 7}, [5]float64{4: 1}, 0}, {[5]int64{1, 1, 1, 1, 1}, [5]float64{0.2, 0.2, 0.2, 0.2, 0.2}, 0},
		{[5]int64{1, 2, 3, 4, 6}, [5]float64{1.0 / 16, 2.0 / 16, 3.0 / 16, 4.0 / 16, 6.0 / 16}, 0}, {[5]int64{2, 0, 0, 1, 0}, [5]float64{2.0 / 3, 0, 0, 1.0 / 3, 0}, 0},
		{[5]int64{1 << 60, 1 << 60, 0, 1 << 61, 1}, [5]float64{0.25, 0.25, 0, 0.5, 1.0 / (1 << 62)}, 0},
		// Tallies of no trace: Rate is what it is of numbers below 0, and of none together.
		{[5]int64{-1}, [5]float64{1, minus, minus, minus, minus}, minus}, {[5]int64{3, 0, 0, 0, -3}, [5]float64{above, nan, nan, nan, below}, nan}, {[5]int64{-3, 1, 0, 0, 0}, [5]float64{1.5, -0.5, minus, minus, minus}, minus},
	} {
		x := tally.Tally{Things: c.things, Steps: 99, Cores: []int64{5}, Done: 7, Waited: 9, Most: 4}
		for at, want := range c.want {
			if got := x.Part(api.RecRun + at); !alike(got, want) {
				t.Errorf("%d: Part(%d) of %v = %g, want %g", n, api.RecRun+at, c.things, got, want)
			}
		}
		for _, kind := range otherKinds {
			if got := x.Part(kind); !alike(got, c.other) {
				t.Errorf("%d: Part(%d) of %v = %g, want %g", n, kind, c.things, got, c.other)
			}
		}
	}
}

// P40.2: Mean.
func TestMean(t *testing.T) {
	for _, c := range []struct {
		waited, done int64
		want         float64
	}{
		{0, 0, nan}, {1, 1, 1}, {8, 3, 8.0 / 3}, {10, 4, 2.5}, {7, 1, 7}, {1, 3, 1.0 / 3}, {0, 5, 0}, {1 << 62, 2, 1 << 61}, {math.MaxInt64, 1, 1 << 63}, {math.MaxInt64, math.MaxInt64, 1},
		{5, 0, above}, {-5, 0, below}, {0, -3, minus}, {-6, 3, -2},
	} {
		x := tally.Tally{Waited: c.waited, Done: c.done, Most: 3, Things: [5]int64{1, 2, 3, 4, 5}}
		if got := x.Mean(); !alike(got, c.want) {
			t.Errorf("Mean of %d by %d = %g, want %g", c.waited, c.done, got, c.want)
		}
	}
}

// P40.2: Even, of no core, of one, and of several ones, some of which did nothing.
func TestEven(t *testing.T) {
	for _, c := range []struct {
		cores []int64
		want  float64
	}{
		{nil, nan}, {[]int64{}, nan}, {[]int64{0}, nan}, {[]int64{0, 0, 0}, nan}, {make([]int64, 64), nan},
		{[]int64{5}, 1}, {[]int64{5, 5}, 1}, {[]int64{3, 1}, 1.0 / 3}, {[]int64{1, 3}, 1.0 / 3}, {[]int64{3, 0}, 0}, {[]int64{0, 3}, 0}, {[]int64{4, 9, 2, 8, 5}, 2.0 / 9}, {[]int64{2, 4, 4, 4, 8}, 0.25}, {[]int64{8, 4, 4, 4, 2}, 0.25}, {[]int64{4, 8, 4, 2, 4}, 0.25},
		{[]int64{math.MaxInt64, 1 << 61}, 0.25}, {[]int64{0, -3}, below}, {[]int64{-3, -6}, 2}, {[]int64{3, -6}, -2},
	} {
		was := slices.Clone(c.cores)
		x := tally.Tally{Cores: c.cores, Done: 3, Waited: 5}
		if got := x.Even(); !alike(got, c.want) || !slices.Equal(was, c.cores) {
			t.Errorf("Even of %v = %g, want %g", c.cores, got, c.want)
		}
	}
	if got := of(t, 64, steps(2, 5, 6)...).Even(); !alike(got, nan) {
		t.Errorf("Even of cores that did nothing = %g", got)
	}
	for cpus := 1; cpus <= 64; cpus++ {
		var l []api.Ev
		for cpu := range cpus {
			l = append(l, api.Ev{Kind: api.EvSpawn, Mask: 1 << cpu})
		}
		for cpu := range min(cpus, 32) {
			l = append(l, steps(cpu+2, cpu)...)
		}
		want := 2 / float64(cpus+1)
		if cpus > 32 {
			want = 0 // there are no more threads than 32
		}
		if got := of(t, cpus, l...).Even(); !alike(got, want) {
			t.Errorf("Even of %d cores = %g, want %g", cpus, got, want)
		}
	}
}
