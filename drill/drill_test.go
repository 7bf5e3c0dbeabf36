package drill_test

import (
	"math"
	"slices"
	"testing"

	"davit/api"
	"davit/drill"
	"davit/mask"
)

// P37.1: rolls that are written out.
func TestRollsWrittenOut(t *testing.T) {
	belows := []int{1, 2, 3, 6, 20, 28, 100, 255, 256, 65536, 1<<31 - 1, 1 << 31}
	for _, c := range []struct {
		seed  uint64
		upper []int
		below []int
	}{
		{0, []int{167951807, 218396424, 1299921937, 861605236, 823830125, 1204436891}, []int{0, 0, 1, 4, 5, 7, 84, 65, 224, 29851, 1360007503, 784246482}},
		{1, []int{908834774, 1093944153, 1392341196, 822192870, 1708211034, 1074839795}, []int{0, 1, 0, 0, 14, 15, 30, 7, 41, 31674, 1601520123, 1150530802}},
		{1 << 63, []int{1241693631, 1292138248, 226180113, 1935347060, 1897571949, 130695067}, []int{0, 0, 0, 2, 9, 27, 8, 129, 224, 29851, 286265679, 1857988306}},
		{math.MaxUint64, []int{1574552488, 1490332343, 1207502677, 901017602, 2086932864, 1334033987}, []int{0, 1, 1, 2, 4, 27, 85, 122, 152, 28028, 1118494883, 417962162}},
	} {
		for range 2 { // the same seed rolls the same
			d := drill.New(c.seed)
			for at, want := range c.upper {
				if n := d.Roll(1 << 31); n != want {
					t.Errorf("seed %d: the roll %d is %d, want %d", c.seed, at, n, want)
				}
			}
			d = drill.New(c.seed)
			for at, want := range c.below {
				if n := d.Roll(belows[at]); n != want {
					t.Errorf("seed %d: the roll %d, below %d, is %d, want %d", c.seed, at, belows[at], n, want)
				}
			}
		}
	}
}

// P37.1: long runs against plain dice, and all rolls below what they are to be.
func TestRolls(t *testing.T) {
	for _, seed := range seeds {
		d, p := drill.New(seed), newPlain(seed)
		for at := range 3000 {
			below := []int{1, 2, 3, 6, 7, 20, 28, 64, 100, 255, 1 << 16, 1<<30 + 1, 1<<31 - 1, 1 << 31}[at%14]
			n := d.Roll(below)
			if int64(n) != p.roll(int64(below)) || n < 0 || n >= below {
				t.Fatalf("seed %d: the roll %d, below %d, is %d", seed, at, below, n)
			}
		}
	}
}

// P37.1: each number below a small one comes, and below the greatest one numbers of all sizes.
func TestAllIsRolled(t *testing.T) {
	d := drill.New(37)
	for below := 1; below <= 64; below++ {
		many := map[int]int{}
		for range 100 * below {
			many[d.Roll(below)]++
		}
		for n := range below {
			if many[n] < 50 || many[n] > 200 && below > 1 {
				t.Errorf("below %d %d was rolled %d times", below, n, many[n])
			}
		}
	}
	eighths := [8]int{}
	for range 8000 {
		eighths[d.Roll(1<<31)>>28]++
	}
	for at, many := range eighths {
		if many < 800 || many > 1200 {
			t.Errorf("the eighth %d was rolled %d times", at, many)
		}
	}
}

// P37.1: below a number that can not be nothing is rolled; below 1 it is.
func TestNothingIsRolled(t *testing.T) {
	for _, seed := range seeds {
		for _, below := range noBelow {
			d, p := drill.New(seed), newPlain(seed)
			for range 5 {
				for range 3 {
					if n := d.Roll(below); n != 0 {
						t.Errorf("seed %d: Roll(%d) = %d", seed, below, n)
					}
				}
				if n := d.Roll(1 << 31); int64(n) != p.roll(1<<31) {
					t.Errorf("seed %d: behind Roll(%d) comes %d", seed, below, n)
				}
			}
		}
		d, p := drill.New(seed), newPlain(seed)
		for range 5 {
			if d.Roll(1) != 0 || p.roll(1) != 0 {
				t.Errorf("seed %d: Roll(1)", seed)
			}
			if n := d.Roll(1 << 31); int64(n) != p.roll(1<<31) {
				t.Errorf("seed %d: behind Roll(1) comes %d", seed, n)
			}
		}
	}
}

// P37.1, P37.2: of nil.
func TestNil(t *testing.T) {
	var d *drill.Dice
	for _, n := range append([]int{1, 2, 64, 100, 1 << 31}, noBelow...) {
		if got := d.Roll(n); got != 0 {
			t.Errorf("Roll(%d) = %d", n, got)
		}
		if e := d.Event(n); e != (api.Ev{}) {
			t.Errorf("Event(%d) = %+v", n, e)
		}
	}
}

// P37.1: dice are each other's no matter, be they of one seed or not.
func TestDiceStandAlone(t *testing.T) {
	a, b, c := drill.New(5), drill.New(5), drill.New(6)
	p, q := newPlain(5), newPlain(6)
	for range 300 {
		want := p.roll(1 << 31)
		n := int64(a.Roll(1 << 31))
		other := int64(c.Roll(1 << 31))
		m := int64(b.Roll(1 << 31))
		if n != want || m != want || other != q.roll(1<<31) {
			t.Fatalf("%d, %d, %d, want %d", n, m, other, want)
		}
	}
}

// P37.2: events that are written out.
func TestEventsWrittenOut(t *testing.T) {
	for _, c := range []struct {
		seed uint64
		cpus int
		want []api.Ev
	}{
		{0, 1, []api.Ev{{Kind: 1, Id: 1, Mask: 1, N: 16}, {Kind: 7, Mask: 1, N: 19}, {Kind: 29, Mask: 1, N: 2}, {Kind: 6, Id: 4, Mask: 1, N: 9}, {Kind: 1, Id: 3, Mask: 1, N: 1}, {Kind: 1, Id: 5, Mask: 1, N: 16}}},
		{0, 3, []api.Ev{{Kind: 1, Id: 1, Mask: 1, N: 16}, {Kind: 7, Cpu: 2, Mask: 2, N: 19}, {Kind: 29, Cpu: 1, Mask: 2, N: 2}, {Kind: 6, Cpu: 1, Id: 4, Mask: 6, N: 9}, {Kind: 1, Cpu: 2, Id: 3, Mask: 7, N: 1}, {Kind: 1, Id: 5, Mask: 4, N: 16}}},
		{0, 64, []api.Ev{{Kind: 1, Cpu: 8, Id: 1, Mask: 96, N: 16}, {Kind: 7, Cpu: 7, Mask: 194, N: 19}, {Kind: 29, Cpu: 61, Mask: 146, N: 2}, {Kind: 6, Cpu: 35, Id: 4, Mask: 158, N: 9}, {Kind: 1, Cpu: 13, Id: 3, Mask: 167, N: 1}, {Kind: 1, Cpu: 62, Id: 5, Mask: 236, N: 16}}},
		{1, 8, []api.Ev{{Kind: 4, Cpu: 4, Mask: 6, N: 14}, {Kind: 1, Cpu: 6, Id: 3, Mask: 19, N: 6}, {Kind: 1, Cpu: 4, Mask: 218, N: 14}, {Kind: 6, Cpu: 4, Id: 3, Mask: 173, N: 7}, {Kind: 1, Cpu: 2, Id: 3, Mask: 250, N: 8}, {Kind: 24, Id: 5, Mask: 49, N: 18}}},
		{1 << 63, 3, []api.Ev{{Kind: 1, Cpu: 1, Id: 3, Mask: 1}, {Kind: 15, Id: 4, Mask: 2, N: 3}, {Kind: 1, Cpu: 1, Id: 5, Mask: 1, N: 16}, {Kind: 1, Cpu: 2, Id: 3, Mask: 7, N: 7}, {Kind: 1, Mask: 1, N: 17}, {Kind: 2, Cpu: 2, Id: 3, Mask: 4, N: 18}}},
		{math.MaxUint64, 64, []api.Ev{{Kind: 6, Cpu: 21, Id: 2, Mask: 213, N: 4}, {Kind: 18, Cpu: 24, Id: 2, Mask: 78, N: 3}, {Kind: 2, Cpu: 26, Id: 2, Mask: 72}, {Kind: 1, Cpu: 34, Mask: 171, N: 1}, {Kind: 1, Cpu: 51, Id: 1, Mask: 141, N: 17}, {Kind: 1, Cpu: 22, Id: 1, Mask: 3, N: 6}}},
	} {
		d := drill.New(c.seed)
		for at, want := range c.want {
			if e := d.Event(c.cpus); e != want {
				t.Errorf("seed %d, %d cores: the event %d is %+v, want %+v", c.seed, c.cpus, at, e, want)
			}
		}
	}
}

// P37.2: of each number of cores, against plain dice; each kind comes, and masks of all cores, of some, and of none, which are of core 0 then.
func TestEvents(t *testing.T) {
	for cpus := 1; cpus <= 64; cpus++ {
		d, p := drill.New(uint64(cpus)), newPlain(uint64(cpus))
		all := mask.Upto(min(cpus, 8))
		var kinds [31]int
		whole, part, none := 0, 0, 0
		for at := range 4000 {
			e := d.Event(cpus)
			want, rolled := p.event(cpus)
			if e != want {
				t.Fatalf("%d cores: the event %d is %+v, want %+v", cpus, at, e, want)
			}
			kinds[e.Kind]++
			switch kept := mask.Mask(rolled).And(mask.Upto(cpus)); kept {
			case all:
				whole++
			case 0:
				none++
			default:
				part++
			}
		}
		if kinds[api.EvStep] < 2200 || kinds[api.EvStep] > 2600 || kinds[api.EvTick] < 150 || kinds[api.EvTick] > 350 {
			t.Errorf("%d cores: %d steps, %d ticks", cpus, kinds[api.EvStep], kinds[api.EvTick])
		}
		for kind := 3; kind <= 30; kind++ {
			if kinds[kind] < 15 {
				t.Errorf("%d cores: the kind %d comes %d times", cpus, kind, kinds[kind])
			}
		}
		// Of one core there is no part; of eight or more, each roll has one at least.
		if whole < 2 || cpus > 1 && part < 1000 || cpus < 8 && none < 10 || cpus >= 8 && none > 0 {
			t.Errorf("%d cores: masks of all %d times, of some %d, of none %d", cpus, whole, part, none)
		}
	}
}

// P37.2: each field is within its bounds, and comes to both of them.
func TestFields(t *testing.T) {
	for _, cpus := range []int{1, 2, 3, 7, 8, 9, 63, 64} {
		d := drill.New(372)
		least := api.Ev{Kind: 99, Cpu: 99, Id: 99, Mask: 999, N: 99}
		most := api.Ev{}
		for range 8000 {
			e := d.Event(cpus)
			if !mask.Mask(e.Mask).Within(mask.Upto(cpus)) {
				t.Fatalf("%d cores: %+v", cpus, e)
			}
			least = api.Ev{Kind: min(least.Kind, e.Kind), Cpu: min(least.Cpu, e.Cpu), Id: min(least.Id, e.Id), Mask: min(least.Mask, e.Mask), N: min(least.N, e.N)}
			most = api.Ev{Kind: max(most.Kind, e.Kind), Cpu: max(most.Cpu, e.Cpu), Id: max(most.Id, e.Id), Mask: max(most.Mask, e.Mask), N: max(most.N, e.N)}
		}
		if least != (api.Ev{Kind: 1, Mask: 1}) || most != (api.Ev{Kind: 30, Cpu: cpus - 1, Id: 5, Mask: uint64(mask.Upto(min(cpus, 8))), N: 19}) {
			t.Errorf("%d cores: from %+v to %+v", cpus, least, most)
		}
	}
}

// P37.2: of so many cores as there can not be there is no event, and nothing is rolled.
func TestNoEvent(t *testing.T) {
	for _, seed := range seeds {
		d, p := drill.New(seed), newPlain(seed)
		for _, cpus := range noCpus {
			for range 3 {
				if e := d.Event(cpus); e != (api.Ev{}) {
					t.Errorf("seed %d: Event(%d) = %+v", seed, cpus, e)
				}
			}
			e := d.Event(5)
			if want, _ := p.event(5); e != want {
				t.Errorf("seed %d: behind Event(%d) comes %+v, want %+v", seed, cpus, e, want)
			}
		}
	}
}

// P37.1, P37.2: rolls and events of one dice, and of other numbers of cores, come out of one number.
func TestRollsAndEvents(t *testing.T) {
	for _, seed := range seeds {
		d, p := drill.New(seed), newPlain(seed)
		for at := range 500 {
			cpus := 1 + at*7%64
			e := d.Event(cpus)
			if want, _ := p.event(cpus); e != want {
				t.Fatalf("seed %d: the event %d is %+v, want %+v", seed, at, e, want)
			}
			if at%3 == 0 && int64(d.Roll(at+1)) != p.roll(int64(at+1)) {
				t.Fatalf("seed %d: the roll behind the event %d", seed, at)
			}
		}
	}
}

// script is a script that there is.
func script(t *testing.T, cpus int, seed uint64, many int) []api.Ev {
	t.Helper()
	l, why := drill.Script(cpus, seed, many)
	if why != api.OK || len(l) != many {
		t.Fatalf("Script(%d, %d, %d): %d events, %d", cpus, seed, many, len(l), why)
	}
	return l
}

// P37.3: scripts that another program rolled, as one number each.
func TestScriptsWrittenOut(t *testing.T) {
	for _, c := range []struct {
		seed uint64
		sums [4]uint64
	}{
		{0, [4]uint64{2024204455174612666, 573062194891904592, 8994514404012465903, 12129016031898186967}},
		{1, [4]uint64{9328111155684710064, 14194087027217039215, 11691430662917753266, 3667622311572957890}},
		{1 << 63, [4]uint64{15139022423982696048, 13759929753033947025, 8693755987409703614, 16737333372812784774}},
		{math.MaxUint64, [4]uint64{13531180598133022874, 15660999532545509815, 17244934789717693407, 10530885795054421935}},
		{12345, [4]uint64{13621750827987979706, 8850062150767155991, 15004967865823671417, 7143803552277716081}},
	} {
		for at, cpus := range []int{1, 2, 8, 64} {
			if n := sum(script(t, cpus, c.seed, 600)); n != c.sums[at] {
				t.Errorf("seed %d, %d cores: %d, want %d", c.seed, cpus, n, c.sums[at])
			}
		}
	}
}

// P37.3: a script is what new dice of its seed roll.
func TestScripts(t *testing.T) {
	for _, seed := range seeds {
		for _, cpus := range []int{1, 2, 5, 8, 9, 63, 64} {
			want := newPlain(seed).script(cpus, 600)
			d := drill.New(seed)
			for at, e := range script(t, cpus, seed, 600) {
				if e != want[at] || d.Event(cpus) != e {
					t.Fatalf("seed %d, %d cores: the event %d is %+v, want %+v", seed, cpus, at, e, want[at])
				}
			}
		}
	}
}

// P37.3: cores and many at their edges, and beyond them.
func TestScriptEdges(t *testing.T) {
	refuses := func(cpus, many int) {
		t.Helper()
		for _, seed := range seeds {
			if l, why := drill.Script(cpus, seed, many); len(l) != 0 || why != api.ErrArg {
				t.Errorf("Script(%d, %d, %d) = %v, %d", cpus, seed, many, l, why)
			}
		}
	}
	noMany := []int{-1, -2, -600, 601, 602, 1 << 31, 1 << 32, 1<<32 + 1, 1<<32 + 600, math.MinInt, math.MinInt + 1, math.MaxInt}
	for _, cpus := range noCpus {
		for _, many := range append([]int{0, 1, 600}, noMany...) {
			refuses(cpus, many)
		}
	}
	for cpus := 1; cpus <= 64; cpus++ {
		for _, many := range noMany {
			refuses(cpus, many)
		}
		for _, many := range []int{0, 1, 2, 599, 600} {
			l := script(t, cpus, uint64(many), many)
			if want := newPlain(uint64(many)).script(cpus, many); !slices.Equal(l, want) {
				t.Errorf("Script(%d, %d, %d) = %v, want %v", cpus, many, many, l, want)
			}
		}
	}
}

// P37.4: a shorter script is what a longer one begins with.
func TestShorterScripts(t *testing.T) {
	for n, seed := range seeds {
		cpus := []int{1, 2, 3, 64}[n%4]
		l := script(t, cpus, seed, 600)
		for many := range 601 {
			if !slices.Equal(script(t, cpus, seed, many), l[:many]) {
				t.Fatalf("seed %d, %d cores: %d events are not what 600 begin with", seed, cpus, many)
			}
		}
	}
}

// Other seeds, and other numbers of cores, have other scripts.
func TestOtherScripts(t *testing.T) {
	for at, seed := range seeds {
		l := script(t, 4, seed, 600)
		for _, other := range seeds[:at] {
			if slices.Equal(l, script(t, 4, other, 600)) {
				t.Errorf("the seeds %d and %d have one script", seed, other)
			}
		}
		if slices.Equal(l, script(t, 5, seed, 600)) {
			t.Errorf("seed %d: 4 and 5 cores have one script", seed)
		}
	}
}

// What is written into an answer, or appended to it, is in no later one.
func TestAnswersAreTheCallers(t *testing.T) {
	l := script(t, 3, 9, 50)
	was := slices.Clone(l)
	m := script(t, 3, 9, 50)
	clear(l)
	_ = append(l[:20], api.Ev{Kind: 99})
	_ = append(l, api.Ev{Kind: 99})
	if !slices.Equal(m, was) || !slices.Equal(script(t, 3, 9, 50), was) || !slices.Equal(script(t, 3, 9, 60)[:50], was) {
		t.Error("what was written into a script is seen in another one")
	}
}
