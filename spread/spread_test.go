package spread_test

import (
	"math"
	"slices"
	"testing"

	"davit/drill"
	"davit/mask"
	"davit/spread"
)

// on is things of the Ids from 1 on, for all cores, on these.
func on(cpus ...int) []spread.Item {
	var l []spread.Item
	for at, cpu := range cpus {
		l = append(l, spread.Item{Id: at + 1, Cpu: cpu, Mask: math.MaxUint64})
	}
	return l
}

// P39.1: loads of few things, and of things on no core.
func TestLoads(t *testing.T) {
	odd := on(-1, 64, 65, math.MinInt, math.MaxInt, 1<<32, -64)
	for n, c := range []struct {
		cpus int
		l    []spread.Item
		want []int
	}{
		{1, nil, []int{0}}, {3, nil, []int{0, 0, 0}}, {2, []spread.Item{}, []int{0, 0}},
		{1, on(0), []int{1}}, {1, on(0, 0, 0), []int{3}}, {1, on(1, 0, 2), []int{1}},
		{3, on(0, 2, 0, 2, 2), []int{2, 0, 3}}, {3, on(3, 2, -1, 1), []int{0, 1, 1}},
		{2, odd, []int{0, 0}}, {2, append(odd, on(1)...), []int{0, 1}},
		// What a thing's Id is, and for which cores it is, does not count.
		{2, []spread.Item{{}, {}, {Id: -5}, {Id: -5, Mask: 2}, {Id: math.MaxInt, Cpu: 1}}, []int{4, 1}},
	} {
		was := slices.Clone(c.l)
		if got := spread.Loads(c.cpus, c.l...); !slices.Equal(got, c.want) {
			t.Errorf("%d: Loads(%d, %v) = %v, want %v", n, c.cpus, c.l, got, c.want)
		}
		if !slices.Equal(c.l, was) {
			t.Errorf("%d: Loads changed %v to %v", n, was, c.l)
		}
	}
	for _, cpus := range noCpus {
		for _, l := range [][]spread.Item{nil, on(0), odd} {
			if got := spread.Loads(cpus, l...); len(got) != 0 {
				t.Errorf("Loads(%d, %v) = %v", cpus, l, got)
			}
		}
	}
}

// P39.1: loads of as many cores as there may be.
func TestLoadsOfAllCores(t *testing.T) {
	var l []spread.Item
	for cpu := -2; cpu < 70; cpu++ {
		for range (cpu + 80) % 5 {
			l = append(l, spread.Item{Id: 3, Cpu: cpu})
		}
	}
	for cpus := 1; cpus <= 64; cpus++ {
		got := spread.Loads(cpus, l...)
		if len(got) != cpus || !slices.Equal(got, plainLoads(cpus, l)) {
			t.Errorf("Loads(%d, ..) = %v", cpus, got)
		}
		for cpu, load := range got {
			if load != cpu%5 {
				t.Errorf("of %d cores the core %d has %d things", cpus, cpu, load)
			}
		}
	}
	many := make([]spread.Item, 300000)
	if got := spread.Loads(2, many...); !slices.Equal(got, []int{300000, 0}) {
		t.Error("Loads of many things", got)
	}
}

// P39.1: gaps.
func TestGap(t *testing.T) {
	long := make([]int, 70)
	long[3], long[63], long[64], long[69] = 5, 9, 1000, -1000
	for n, c := range []struct {
		loads []int
		of    mask.Mask
		want  int
	}{
		// No load, no core, and cores without a load.
		{nil, 0, 0}, {nil, 1, 0}, {nil, math.MaxUint64, 0}, {[]int{}, 7, 0}, {[]int{5, 9}, 0, 0}, {[]int{5, 9}, 4, 0}, {[]int{5, 9}, math.MaxUint64 &^ 3, 0}, {[]int{5, 9}, 1 << 63, 0},
		// One core.
		{[]int{5, 9}, 1, 0}, {[]int{5, 9}, 2, 0}, {[]int{5}, math.MaxUint64, 0}, {[]int{5, 9}, 6, 0}, {[]int{-5}, 1, 0},
		// Several ones, all or some of the loads; one of 0 is one, too.
		{[]int{5, 9}, 3, 4}, {[]int{9, 5}, 3, 4}, {[]int{9, 9}, 3, 0}, {[]int{9, 5, 0}, 7, 9}, {[]int{9, 5, 0}, 3, 4}, {[]int{9, 5, 0}, 6, 5}, {[]int{9, 5, 0}, 5, 9}, {[]int{9, 5, 0}, math.MaxUint64, 9}, {[]int{0, 0}, 3, 0},
		{[]int{1, 7, 3, 7, 1}, 31, 6}, {[]int{1, 7, 3, 7, 1}, 14, 4}, {[]int{1, 7, 3, 7, 1}, 10, 0}, {[]int{1, 7, 3, 7, 1}, 17, 0}, {[]int{1, 7, 3, 7, 1}, 20, 2},
		// Below 0, and great ones.
		{[]int{-5, 3}, 3, 8}, {[]int{-5, -3}, 3, 2}, {[]int{0, -3}, 3, 3}, {[]int{1 << 30, -1 << 30}, 3, 1 << 31}, {[]int{math.MaxInt, 0}, 3, math.MaxInt}, {[]int{-1, math.MinInt}, 3, math.MaxInt}, {[]int{math.MaxInt, math.MaxInt - 1}, 3, 1},
		// Loads of more cores than there are.
		{long, math.MaxUint64, 9}, {long, 1<<63 | 8, 4}, {long, 1 << 63, 0}, {long[:64], math.MaxUint64, 9}, {long[:63], math.MaxUint64, 5}, {long[:65], math.MaxUint64, 9},
	} {
		was := slices.Clone(c.loads)
		if got := spread.Gap(c.loads, c.of); got != c.want {
			t.Errorf("%d: Gap(%v, %x) = %d, want %d", n, c.loads, c.of, got, c.want)
		}
		if !slices.Equal(c.loads, was) {
			t.Errorf("%d: Gap changed %v to %v", n, was, c.loads)
		}
	}
}

// P39.1: gaps of any loads, against all two of them.
func TestAnyGap(t *testing.T) {
	dice := drill.New(39)
	for range 3000 {
		loads := make([]int, dice.Roll(70))
		for at := range loads {
			loads[at] = dice.Roll(20) - 5
		}
		of := someCores(dice, dice.Roll(3))
		want := 0
		for a, x := range loads {
			for b, y := range loads {
				if a < 64 && b < 64 && of>>a&1 == 1 && of>>b&1 == 1 {
					want = max(want, x-y)
				}
			}
		}
		if got := spread.Gap(loads, of); got != want {
			t.Fatalf("Gap(%v, %x) = %d, want %d", loads, of, got, want)
		}
	}
}

// P39.1: weights: what is below 0, or above 2^20, has none.
func TestWeight(t *testing.T) {
	const top = 1 << 20
	for _, c := range []struct {
		loads []int
		want  int64
	}{
		{nil, 0}, {[]int{}, 0}, {[]int{0}, 0}, {[]int{0, 0, 0}, 0}, {[]int{1}, 1}, {[]int{3}, 9}, {[]int{3, 4}, 25}, {[]int{2, 2, 1}, 9}, {[]int{1, 2, 3, 4, 5}, 55},
		{[]int{-1}, 0}, {[]int{-3, 4}, 16}, {[]int{math.MinInt, 1, math.MaxInt}, 1}, {[]int{-top, 5, -1 << 31}, 25},
		{[]int{top}, 1 << 40}, {[]int{top - 1}, 1<<40 - 1<<21 + 1}, {[]int{top + 1}, 0}, {[]int{top, top + 1, top}, 1 << 41}, {[]int{1 << 31, 1 << 32, 1<<32 + 3, 2}, 4},
		// More loads than there are cores count all the same.
		{slices.Repeat([]int{2}, 100), 400}, {slices.Repeat([]int{top}, 100), 100 << 40}, {slices.Repeat([]int{top}, 1<<20), 1 << 60},
	} {
		was := slices.Clone(c.loads)
		if got := spread.Weight(c.loads); got != c.want {
			t.Errorf("Weight of %d loads, %v first = %d, want %d", len(c.loads), c.loads[:min(5, len(c.loads))], got, c.want)
		}
		if !slices.Equal(c.loads, was) {
			t.Error("Weight changed its loads")
		}
	}
}

// What is written into an answer, or appended to it, or into what was handed in, is in no other one.
func TestAnswersAreTheCallers(t *testing.T) {
	l := on(0, 0, 0, 0, 1)
	kept := slices.Clone(l)
	loads, again := spread.Loads(2, l...), spread.Loads(2, l...)
	clear(loads)
	_ = append(loads[:1], 77)
	plan, _ := spread.Plan(2, 3, l...)
	other, _ := spread.Plan(2, 3, l...)
	want := slices.Clone(other)
	clear(plan)
	_ = append(plan[:0], spread.Move{Id: 77})
	// Lists that go on behind what is handed in.
	more := append(slices.Clone(l), spread.Item{Id: 9})
	steps := append(slices.Clone(want), spread.Move{Id: 9})
	things, _ := spread.Apply(more[:5], steps[:len(want)]...)
	behind, _ := spread.Apply(more[:5], steps[:len(want)]...)
	rest := slices.Clone(behind)
	clear(things)
	_ = append(things, spread.Item{Id: 77})
	same, _ := spread.Apply(more[:5])
	clear(same)
	_ = append(same, spread.Item{Id: 77})
	if !slices.Equal(again, []int{4, 1}) || len(want) == 0 || !slices.Equal(other, want) || !slices.Equal(behind, rest) {
		t.Error("what was written into an answer is seen in another one")
	}
	if !slices.Equal(l, kept) || !slices.Equal(more, append(kept[:5:5], spread.Item{Id: 9})) || !slices.Equal(steps, append(want[:len(want):len(want)], spread.Move{Id: 9})) {
		t.Error("what was written into an answer is seen in what was handed in")
	}
	clear(more)
	clear(steps)
	clear(l)
	if !slices.Equal(behind, rest) || !slices.Equal(other, want) || !slices.Equal(again, []int{4, 1}) {
		t.Error("what was written into what was handed in is seen in an answer")
	}
}
