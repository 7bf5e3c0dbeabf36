package spread_test

import (
	"math"
	"slices"
	"testing"

	"davit/api"
	"davit/drill"
	"davit/mask"
	"davit/spread"
)

// P39.2: each reason to refuse, alone, and with others: the cores ahead of how many things there are, and that ahead of what they are.
func TestPlanRefused(t *testing.T) {
	same := []spread.Item{{Id: 1, Mask: 3}, {Id: 2, Mask: 3}, {Id: 1, Mask: 3}}
	none := []spread.Item{{Id: 1, Mask: 3}, {Id: 2, Cpu: 2, Mask: 7}}
	full, over := on(make([]int, 64)...), on(make([]int, 65)...)
	for n, c := range []struct {
		cpus   int
		active mask.Mask
		l      []spread.Item
		want   api.Errno
	}{
		// Cores alone.
		{0, 1, nil, api.ErrArg}, {65, 1, nil, api.ErrArg}, {-1, 1, nil, api.ErrArg}, {math.MaxInt, 1, nil, api.ErrArg}, {math.MinInt, 1, nil, api.ErrArg}, {0, 0, nil, api.ErrArg},
		{1, 0, nil, api.ErrArg}, {64, 0, nil, api.ErrArg}, {1, 2, nil, api.ErrArg}, {1, 3, nil, api.ErrArg}, {2, 4, nil, api.ErrArg}, {63, 1 << 63, nil, api.ErrArg}, {63, math.MaxUint64, nil, api.ErrArg}, {2, 1<<63 | 3, nil, api.ErrArg},
		// How many things.
		{2, 3, over, api.ErrSize}, {2, 3, append(over, over...), api.ErrSize}, {64, math.MaxUint64, over, api.ErrSize}, {2, 1, over, api.ErrSize}, {2, 3, make([]spread.Item, 5000), api.ErrSize},
		// Things alone.
		{2, 3, same, api.ErrArg}, {2, 3, same[1:], api.OK}, {2, 3, []spread.Item{{}, {}}, api.ErrArg}, {2, 3, []spread.Item{{Id: -1, Cpu: 1}, {Id: 5}, {Id: -1}}, api.ErrArg}, {1, 1, []spread.Item{{Id: math.MinInt}, {Id: math.MinInt, Mask: 1}}, api.ErrArg},
		{2, 3, none, api.ErrArg}, {3, 3, none, api.ErrArg}, {3, 7, none, api.OK}, {3, 5, none, api.OK}, {3, 6, none, api.ErrArg}, {2, 3, on(-1), api.ErrArg}, {2, 3, on(0, 64), api.ErrArg}, {64, math.MaxUint64, on(63, 64), api.ErrArg}, {64, math.MaxUint64 >> 1, on(63), api.ErrArg}, {64, math.MaxUint64, on(math.MinInt), api.ErrArg}, {2, 3, on(0, math.MaxInt), api.ErrArg}, {2, 2, on(0), api.ErrArg},
		// Together.
		{0, 1, over, api.ErrArg}, {65, 1, same, api.ErrArg}, {2, 0, over, api.ErrArg}, {2, 4, over, api.ErrArg}, {2, 0, none, api.ErrArg}, {2, 3, append(over, same...), api.ErrSize}, {2, 3, append(none, over...), api.ErrSize}, {2, 3, append(same, over...), api.ErrSize}, {2, 3, append(none, same...), api.ErrArg},
		{2, 3, append(full[:63:63], full[5]), api.ErrArg}, {2, 3, append(full[:63:63], spread.Item{Id: 99, Cpu: 2}), api.ErrArg},
		// And none.
		{1, 1, nil, api.OK}, {64, math.MaxUint64, nil, api.OK}, {64, 1 << 63, nil, api.OK}, {2, 3, full, api.OK}, {64, math.MaxUint64, full, api.OK}, {1, 1, full, api.OK}, {64, 1 << 63, on(63, 63), api.OK},
	} {
		was := slices.Clone(c.l)
		got, why := spread.Plan(c.cpus, c.active, c.l...)
		if why != c.want || why != api.OK && len(got) != 0 {
			t.Errorf("%d: Plan(%d, %x, %d things) = %v, %d, want %d", n, c.cpus, c.active, len(c.l), got, why, c.want)
		}
		if !slices.Equal(c.l, was) {
			t.Errorf("%d: Plan changed %v to %v", n, was, c.l)
		}
	}
}

// P39.2: plans that are written out.
func TestPlan(t *testing.T) {
	for n, c := range []struct {
		cpus   int
		active mask.Mask
		l      []spread.Item
		want   []spread.Move
	}{
		{1, 1, nil, nil}, {2, 3, nil, nil}, {1, 1, on(0, 0, 0), nil}, {2, 1, on(0, 0, 0), nil},
		// Example 1.
		{2, 3, on(0, 0, 0), []spread.Move{{3, 0, 1}}},
		// Loads that differ by 1, by 2, by 3.
		{2, 3, on(0), nil}, {2, 3, on(1), nil}, {2, 3, on(0, 1, 0), nil}, {2, 3, on(1, 0, 1), nil},
		{2, 3, on(0, 0), []spread.Move{{2, 0, 1}}}, {2, 3, on(1, 1), []spread.Move{{2, 1, 0}}}, {2, 3, on(0, 1, 0, 0), []spread.Move{{4, 0, 1}}}, {2, 3, on(1, 0, 1, 1, 1), []spread.Move{{5, 1, 0}}},
		{2, 3, on(0, 0, 0, 0), []spread.Move{{4, 0, 1}, {3, 0, 1}}}, {2, 3, on(1, 1, 1, 0, 1, 1), []spread.Move{{6, 1, 0}, {5, 1, 0}}},
		// Of several cores with the greatest load, and with the least, the lowest.
		{4, 15, on(3, 3, 1, 1), []spread.Move{{4, 1, 0}, {2, 3, 2}}},
		{4, 15, on(2, 2, 2, 0, 0, 0), []spread.Move{{6, 0, 1}, {3, 2, 3}}},
		{3, 7, on(0, 0, 0, 0, 0), []spread.Move{{5, 0, 1}, {4, 0, 2}, {3, 0, 1}}},
		{5, 31, on(4, 4, 4, 2, 2, 2), []spread.Move{{6, 2, 0}, {3, 4, 1}, {5, 2, 3}}},
		// Cores that are not active have no part in it.
		{4, 10, on(1, 1, 1), []spread.Move{{3, 1, 3}}}, {64, 1<<63 | 1<<5, on(63, 63), []spread.Move{{2, 63, 5}}}, {64, 1<<63 | 1<<5, on(5, 5, 5), []spread.Move{{3, 5, 63}}}, {3, 6, on(2, 1, 2, 2), []spread.Move{{4, 2, 1}}},
		// The last thing is not for each core.
		{3, 7, []spread.Item{{Id: 7, Cpu: 0, Mask: 7}, {Id: 8, Cpu: 0, Mask: 1}, {Id: 9, Cpu: 0, Mask: 2}}, []spread.Move{{9, 0, 1}, {7, 0, 2}}},
		{3, 7, []spread.Item{{1, 0, 1}, {2, 0, 1}, {3, 0, 1}, {4, 0, 4}, {5, 1, 2}, {6, 1, 2}}, []spread.Move{{4, 0, 2}}},
		// What goes is the last thing whose mask has that core.
		{2, 3, []spread.Item{{1, 0, 2}, {2, 0, 3}, {3, 0, 1}}, []spread.Move{{2, 0, 1}}}, {2, 3, []spread.Item{{1, 0, 2}, {2, 0, 1}, {3, 0, 1}}, []spread.Move{{1, 0, 1}}}, {2, 3, []spread.Item{{5, 0, 3}, {4, 0, 3}, {9, 0, 0}, {7, 0, 5}}, []spread.Move{{4, 0, 1}, {5, 0, 1}}},
		// A plan that ends though loads differ: as nothing there is for that core, even if there were something for another one.
		{2, 3, []spread.Item{{1, 0, 1}, {2, 0, 1}, {3, 0, 0}}, nil}, {3, 7, []spread.Item{{1, 0, 4}, {2, 0, 4}, {3, 0, 4}}, nil}, {3, 7, []spread.Item{{1, 0, 5}, {2, 0, 5}, {3, 0, 7}, {4, 0, 5}}, []spread.Move{{3, 0, 1}, {4, 0, 2}}},
		{3, 7, []spread.Item{{1, 0, 1}, {2, 0, 1}, {3, 0, 1}, {4, 1, 7}, {5, 1, 7}, {6, 1, 7}}, nil}, {3, 7, []spread.Item{{1, 0, 1}, {2, 0, 1}, {4, 1, 7}, {5, 1, 7}, {6, 1, 7}}, []spread.Move{{6, 1, 2}}}, {3, 7, []spread.Item{{1, 0, 4}, {2, 0, 4}, {3, 0, 4}, {4, 1, 1}}, []spread.Move{{3, 0, 2}}},
		// A thing that is not for the core that it is on goes no sooner, and one whose mask has cores that are not there may go.
		{2, 3, []spread.Item{{1, 0, 2}, {2, 1, 3}}, nil}, {2, 3, []spread.Item{{1, 0, math.MaxUint64}, {2, 0, math.MaxUint64 - 2}}, []spread.Move{{1, 0, 1}}},
		// Any Ids.
		{2, 3, []spread.Item{{math.MaxInt, 0, 3}, {-1, 0, 3}, {0, 0, 3}, {math.MinInt, 0, 3}}, []spread.Move{{math.MinInt, 0, 1}, {0, 0, 1}}},
	} {
		was := slices.Clone(c.l)
		got, why := spread.Plan(c.cpus, c.active, c.l...)
		if why != api.OK || !slices.Equal(got, c.want) {
			t.Errorf("%d: Plan(%d, %x, %v) = %v, %d, want %v", n, c.cpus, c.active, c.l, got, why, c.want)
		}
		if p := plainPlan(c.cpus, uint64(c.active), c.l); !slices.Equal(p, c.want) {
			t.Errorf("%d: the plain plan is %v", n, p)
		}
		if !slices.Equal(c.l, was) {
			t.Errorf("%d: Plan changed %v to %v", n, was, c.l)
		}
	}
}

// P39.2: 64 things on one core of each number of cores.
func TestPlanOfManyThings(t *testing.T) {
	l := on(make([]int, 64)...)
	for cpus := 1; cpus <= 64; cpus++ {
		got, why := spread.Plan(cpus, mask.Upto(cpus), l...)
		if why != api.OK || len(got) != 64-(64+cpus-1)/cpus {
			t.Fatalf("of %d cores there are %d moves, %d", cpus, len(got), why)
		}
		for at, m := range got {
			want := spread.Move{Id: 64 - at, From: 0, To: 1 + at%max(cpus-1, 1)}
			if m != want {
				t.Fatalf("of %d cores the move %d is %v, want %v", cpus, at, m, want)
			}
		}
		if p := plainPlan(cpus, uint64(mask.Upto(cpus)), l); !slices.Equal(got, p) {
			t.Errorf("of %d cores the plain plan is %v", cpus, p)
		}
	}
}

// P39.2 to P39.5: any plans, against plain ones; the moves one by one.
func TestAnyPlan(t *testing.T) {
	var uneven, even, idle, several int
	for seed := range uint64(3000) {
		dice := drill.New(seed)
		kind := int(seed % 3)
		cpus, active, l := rolled(dice, kind)
		plan, why := spread.Plan(cpus, active, l...)
		if why != api.OK || !slices.Equal(plan, plainPlan(cpus, uint64(active), l)) {
			t.Fatalf("seed %d: Plan(%d, %x, %v) = %v, %d", seed, cpus, active, l, plan, why)
		}
		weight := spread.Weight(spread.Loads(cpus, l...))
		for many := range plan {
			things, why := spread.Apply(l, plan[:many+1]...)
			now := spread.Weight(spread.Loads(cpus, things...))
			if why != api.OK || now >= weight {
				t.Fatalf("seed %d: behind %v the weight is %d, %d, ahead of it %d", seed, plan[many], now, why, weight)
			}
			weight = now
			m := plan[many]
			at := slices.IndexFunc(l, func(x spread.Item) bool { return x.Id == m.Id })
			if !l[at].Mask.Has(m.To) || !active.Has(m.To) || things[at].Cpu != m.To {
				t.Fatalf("seed %d: %v of %v", seed, m, l[at])
			}
		}
		things, _ := spread.Apply(l, plan...)
		gap := spread.Gap(spread.Loads(cpus, things...), active)
		if gap > 1 && kind == 0 {
			t.Fatalf("seed %d: the gap is %d", seed, gap)
		}
		switch {
		case gap > 1:
			uneven++
		case len(plan) == 0:
			idle++
		default:
			even++
		}
		if len(plan) > 10 {
			several++
		}
	}
	if uneven < 300 || even < 300 || idle < 50 || several < 300 {
		t.Error("uneven", uneven, "even", even, "idle", idle, "several", several)
	}
}

// Behind a plan there is none any more.
func TestPlanOfPlanned(t *testing.T) {
	for seed := range uint64(500) {
		cpus, active, l := rolled(drill.New(seed), int(seed%3))
		plan, _ := spread.Plan(cpus, active, l...)
		things, why := spread.Apply(l, plan...)
		if again, e := spread.Plan(cpus, active, things...); why != api.OK || e != api.OK || len(again) != 0 {
			t.Fatalf("seed %d: behind the plan %v, %d, there is %v, %d", seed, plan, why, again, e)
		}
	}
}

// P39.3: moves that are written out.
func TestApply(t *testing.T) {
	two := []spread.Item{{5, 0, 1}, {7, 0, 2}, {5, 0, 3}, {5, 1, 4}}
	for n, c := range []struct {
		l     []spread.Item
		moves []spread.Move
		want  []spread.Item
		why   api.Errno
	}{
		{nil, nil, nil, api.OK}, {[]spread.Item{}, []spread.Move{}, nil, api.OK}, {two, nil, two, api.OK},
		{on(0), []spread.Move{{1, 0, 1}}, on(1), api.OK}, {on(0, 0, 0), []spread.Move{{2, 0, 1}}, on(0, 1, 0), api.OK}, {on(0, 1, 2), []spread.Move{{3, 2, 0}, {1, 0, 2}}, on(2, 1, 0), api.OK},
		// A thing that is not there, at all, or on that core.
		{nil, []spread.Move{{1, 0, 1}}, nil, api.ErrNone}, {nil, []spread.Move{{}}, nil, api.ErrNone}, {on(0), []spread.Move{{2, 0, 1}}, nil, api.ErrNone}, {on(0), []spread.Move{{0, 0, 1}}, nil, api.ErrNone}, {on(0), []spread.Move{{1, 1, 0}}, nil, api.ErrNone}, {on(0, 1), []spread.Move{{1, 1, 0}}, nil, api.ErrNone}, {on(0, 1), []spread.Move{{1, 0, 1}, {2, 0, 1}}, nil, api.ErrNone},
		// Not any more.
		{on(0), []spread.Move{{1, 0, 1}, {1, 0, 1}}, nil, api.ErrNone}, {on(0, 0), []spread.Move{{1, 0, 1}, {2, 0, 1}, {1, 0, 2}}, nil, api.ErrNone}, {on(0, 0), []spread.Move{{1, 0, 0}, {1, 0, 1}, {1, 0, 0}, {2, 0, 1}}, nil, api.ErrNone},
		// Two moves of one thing.
		{on(0), []spread.Move{{1, 0, 1}, {1, 1, 2}}, on(2), api.OK}, {on(0), []spread.Move{{1, 0, 1}, {1, 1, 0}}, on(0), api.OK}, {on(0, 0), []spread.Move{{1, 0, 1}, {2, 0, 1}, {1, 1, 0}}, on(0, 1), api.OK}, {on(0), []spread.Move{{1, 0, 0}, {1, 0, 0}}, on(0), api.OK},
		// Two things of one Id: the first one that is there then.
		{two, []spread.Move{{5, 0, 2}}, []spread.Item{{5, 2, 1}, {7, 0, 2}, {5, 0, 3}, {5, 1, 4}}, api.OK},
		{two, []spread.Move{{5, 0, 2}, {5, 0, 3}}, []spread.Item{{5, 2, 1}, {7, 0, 2}, {5, 3, 3}, {5, 1, 4}}, api.OK},
		{two, []spread.Move{{5, 0, 2}, {5, 0, 3}, {5, 0, 4}}, nil, api.ErrNone},
		{two, []spread.Move{{5, 0, 1}, {5, 1, 2}, {5, 1, 3}}, []spread.Item{{5, 2, 1}, {7, 0, 2}, {5, 0, 3}, {5, 3, 4}}, api.OK},
		{two, []spread.Move{{5, 1, 0}, {5, 0, 1}, {5, 0, 2}, {5, 0, 3}, {5, 1, 9}}, []spread.Item{{5, 9, 1}, {7, 0, 2}, {5, 2, 3}, {5, 3, 4}}, api.OK},
		{[]spread.Item{{}, {}, {}}, []spread.Move{{}, {To: 1}, {To: 2}, {To: 1}}, []spread.Item{{Cpu: 1}, {Cpu: 2}, {Cpu: 1}}, api.OK}, {[]spread.Item{{}, {}}, []spread.Move{{}, {}, {}}, []spread.Item{{}, {}}, api.OK},
		// Any Ids and cores; a thing's mask says nothing here.
		{[]spread.Item{{-1, -5, 0}, {math.MinInt, math.MaxInt, 6}}, []spread.Move{{math.MinInt, math.MaxInt, math.MinInt}, {-1, -5, 99}}, []spread.Item{{-1, 99, 0}, {math.MinInt, math.MinInt, 6}}, api.OK},
	} {
		was, did := slices.Clone(c.l), slices.Clone(c.moves)
		got, why := spread.Apply(c.l, c.moves...)
		if why != c.why || !slices.Equal(got, c.want) {
			t.Errorf("%d: Apply(%v, %v) = %v, %d, want %v, %d", n, c.l, c.moves, got, why, c.want, c.why)
		}
		if p, e := plainApply(c.l, c.moves); e != c.why || !slices.Equal(p, c.want) {
			t.Errorf("%d: the plain things are %v, %d", n, p, e)
		}
		if !slices.Equal(c.l, was) || !slices.Equal(c.moves, did) {
			t.Errorf("%d: Apply changed %v to %v, %v to %v", n, was, c.l, did, c.moves)
		}
	}
}

// P39.3: any moves of things that mostly are there, against plain ones.
func TestAnyApply(t *testing.T) {
	var well, none int
	for seed := range uint64(6000) {
		dice := drill.New(seed)
		var l []spread.Item
		for range dice.Roll(9) {
			l = append(l, spread.Item{Id: dice.Roll(4), Cpu: dice.Roll(2), Mask: mask.Mask(dice.Roll(100))})
		}
		var moves []spread.Move
		for range dice.Roll(7) {
			moves = append(moves, spread.Move{Id: dice.Roll(4), From: dice.Roll(2), To: dice.Roll(2)})
		}
		was, did := slices.Clone(l), slices.Clone(moves)
		got, why := spread.Apply(l, moves...)
		want, e := plainApply(l, moves)
		if why != e || !slices.Equal(got, want) || !slices.Equal(l, was) || !slices.Equal(moves, did) {
			t.Fatalf("seed %d: Apply(%v, %v) = %v, %d, want %v, %d", seed, l, moves, got, why, want, e)
		}
		switch {
		case why != api.OK:
			none++
		case len(moves) > 0:
			well++
		}
	}
	if well < 500 || none < 500 {
		t.Error("well", well, "none", none)
	}
}

// P39.3: many moves of many things.
func TestApplyOfMany(t *testing.T) {
	const many = 200000
	l := make([]spread.Item, many)
	moves := make([]spread.Move, many)
	for at := range l {
		l[at] = spread.Item{Id: at, Mask: 3}
		moves[at] = spread.Move{Id: many - 1 - at, To: 1}
	}
	got, why := spread.Apply(l, moves...)
	if n := spread.Loads(2, got...); why != api.OK || !slices.Equal(n, []int{0, many}) {
		t.Error("Apply", n, why)
	}
	if _, why := spread.Apply(l, append(moves, moves[0])...); why != api.ErrNone {
		t.Error("Apply", why)
	}
}
