package meter_test

import (
	"math"
	"math/big"
	"testing"

	"davit/api"
	"davit/meter"
)

const (
	least    = math.MinInt64
	greatest = math.MaxInt64
	most     = 1 << 31 // ticks, or power, of one call
	dearest  = 1 << 62 // energy of a core
)

var (
	noCores = []int{math.MinInt, -1 << 32, -64, -2, -1, 64, 65, 1 << 32, 1<<32 + 1, math.MaxInt}
	noWays  = []int{math.MinInt, -1 << 32, -8, -2, -1, 8, 9, 64, 1 << 32, 1<<32 + 1, math.MaxInt}
	// wrongNumbers are ticks, or power, that can not be.
	wrongNumbers = []int64{least, least + 1, -1 << 32, -most, -2, -1, most + 1, 1 << 32, 1<<32 + 5, dearest, greatest - 1, greatest}
)

// alike is whether two floats are one answer: the sign of zero counts, which number that is none does not.
func alike(a, b float64) bool {
	return math.IsNaN(a) && math.IsNaN(b) || math.Float64bits(a) == math.Float64bits(b)
}

// nearest is the float that is nearest to a, made by another way than a conversion.
func nearest(a int64) float64 {
	f, _ := new(big.Rat).SetInt64(a).Float64()
	return f
}

// rate is what Rate must be.
func rate(a, b int64) float64 {
	switch {
	case a == 0 && b == 0:
		return math.NaN()
	case b == 0 && a > 0:
		return math.Inf(1)
	case b == 0:
		return math.Inf(-1)
	case a == 0 && b < 0:
		return math.Copysign(0, -1)
	}
	part, whole := new(big.Rat).SetFloat64(nearest(a)), new(big.Rat).SetFloat64(nearest(b))
	f, _ := part.Quo(part, whole).Float64()
	return f
}

// plainCore is what a core of a meter must be, in numbers of any size.
type plainCore struct {
	energy *big.Int
	ticks  int64
	rested [8]int64
}

type plain []plainCore

func (c *plainCore) add(ticks, power int64) api.Errno {
	if ticks < 0 || ticks > most || power < 0 || power > most {
		return api.ErrArg
	}
	energy := new(big.Int).Mul(big.NewInt(ticks), big.NewInt(power))
	energy.Add(energy, c.energy)
	if energy.Cmp(big.NewInt(dearest)) > 0 {
		return api.ErrOver
	}
	c.energy = energy
	c.ticks += ticks
	return api.OK
}

func made(t *testing.T, cpus int) (*meter.Meter, plain) {
	t.Helper()
	m, why := meter.New(cpus)
	if why != api.OK || m == nil {
		t.Fatalf("New(%d) = %v, %d", cpus, m, why)
	}
	p := make(plain, cpus)
	for cpu := range p {
		p[cpu].energy = new(big.Int)
	}
	return m, p
}

// works tells work to both, and holds the answers, and what is there then, against each other.
func works(t *testing.T, m *meter.Meter, p plain, cpu int, ticks, power int64) {
	t.Helper()
	want := p[cpu].add(ticks, power)
	if why := m.Work(cpu, ticks, power); why != want {
		t.Fatalf("Work(%d, %d, %d) = %d, want %d", cpu, ticks, power, why, want)
	}
	holds(t, m, p)
}

// rests is the same of rest.
func rests(t *testing.T, m *meter.Meter, p plain, cpu, way int, ticks, power int64) {
	t.Helper()
	want := p[cpu].add(ticks, power)
	if want == api.OK {
		p[cpu].rested[way] += ticks
	}
	if why := m.Rest(cpu, way, ticks, power); why != want {
		t.Fatalf("Rest(%d, %d, %d, %d) = %d, want %d", cpu, way, ticks, power, why, want)
	}
	holds(t, m, p)
}

// holds says by each call that only looks that a meter is as the plain one.
func holds(t *testing.T, m *meter.Meter, p plain) {
	t.Helper()
	for cpu, c := range p {
		if n := m.Energy(cpu); n != c.energy.Int64() {
			t.Fatalf("Energy(%d) = %d, want %v", cpu, n, c.energy)
		}
		if n := m.Ticks(cpu); n != c.ticks {
			t.Fatalf("Ticks(%d) = %d, want %d", cpu, n, c.ticks)
		}
		if f, want := m.Average(cpu), rate(c.energy.Int64(), c.ticks); !alike(f, want) {
			t.Fatalf("Average(%d) = %v, want %v", cpu, f, want)
		}
		for way, ticks := range c.rested {
			if n := m.Rested(cpu, way); n != ticks {
				t.Fatalf("Rested(%d, %d) = %d, want %d", cpu, way, n, ticks)
			}
			if f, want := m.Share(cpu, way), rate(ticks, c.ticks); !alike(f, want) {
				t.Fatalf("Share(%d, %d) = %v, want %v", cpu, way, f, want)
			}
		}
	}
}

func TestNew(t *testing.T) {
	for cpus := 1; cpus <= 64; cpus++ {
		m, p := made(t, cpus)
		holds(t, m, p)
		works(t, m, p, cpus-1, 3, 4)
		if why := m.Work(cpus, 0, 0); why != api.ErrRange {
			t.Errorf("Work(%d, 0, 0) of %d cores = %d", cpus, cpus, why)
		}
	}
	for _, cpus := range []int{math.MinInt, -1 << 32, -1, 0, 65, 66, 1 << 32, 1<<32 + 1, math.MaxInt} {
		if m, why := meter.New(cpus); m != nil || why != api.ErrArg {
			t.Errorf("New(%d) = %v, %d", cpus, m, why)
		}
	}
}

func TestWorkAndRest(t *testing.T) {
	m, p := made(t, 3)
	works(t, m, p, 0, 3, 10)
	rests(t, m, p, 0, 7, 1, 2)
	if m.Energy(0) != 32 || m.Ticks(0) != 4 || m.Rested(0, 7) != 1 || m.Average(0) != 8 || m.Share(0, 7) != 0.25 {
		t.Errorf("Energy %d, Ticks %d, Rested %d, Average %v, Share %v", m.Energy(0), m.Ticks(0), m.Rested(0, 7), m.Average(0), m.Share(0, 7))
	}
	for way := range 8 {
		rests(t, m, p, 2, way, int64(way), int64(100-way))
		rests(t, m, p, 2, way, int64(10*way), 0)
		rests(t, m, p, 2, way, 0, 5)
	}
	works(t, m, p, 1, 0, 0)
	works(t, m, p, 1, 0, most)
	works(t, m, p, 1, most, 0)
	works(t, m, p, 1, 1, most)
	works(t, m, p, 1, most, 1)
	rests(t, m, p, 1, 0, most, 1)
}

// TestNothingDone: energy by no ticks is no number, and so is a share of none.
func TestNothingDone(t *testing.T) {
	m, p := made(t, 2)
	rests(t, m, p, 0, 3, 0, 9)
	if !math.IsNaN(m.Average(0)) || !math.IsNaN(m.Share(0, 3)) || !math.IsNaN(m.Share(0, 8)) {
		t.Errorf("Average %v, Share %v, of no way %v", m.Average(0), m.Share(0, 3), m.Share(0, 8))
	}
	works(t, m, p, 0, 5, 0)
	if !alike(m.Average(0), 0) || !alike(m.Share(0, 3), 0) || !alike(m.Share(0, 8), 0) {
		t.Errorf("Average %v, Share %v, of no way %v", m.Average(0), m.Share(0, 3), m.Share(0, 8))
	}
}

// refuses says that what can not be is refused, by the error that is named first, and changes nothing.
func refuses(t *testing.T, m *meter.Meter, p plain) {
	t.Helper()
	check := func(why, want api.Errno, what string, of ...any) {
		t.Helper()
		if why != want {
			t.Fatalf("%s of %v = %d, want %d", what, of, why, want)
		}
	}
	numbers := append([]int64{0, 1, most}, wrongNumbers...)
	for _, ticks := range numbers {
		for _, power := range numbers {
			for _, cpu := range append([]int{len(p), len(p) + 1}, noCores...) {
				check(m.Work(cpu, ticks, power), api.ErrRange, "Work", cpu, ticks, power)
				check(m.Rest(cpu, 0, ticks, power), api.ErrRange, "Rest", cpu, 0, ticks, power)
				check(m.Rest(cpu, 8, ticks, power), api.ErrRange, "Rest", cpu, 8, ticks, power)
			}
			for _, way := range noWays {
				check(m.Rest(0, way, ticks, power), api.ErrRange, "Rest", 0, way, ticks, power)
			}
			if ticks >= 0 && ticks <= most && power >= 0 && power <= most {
				continue
			}
			check(m.Work(0, ticks, power), api.ErrArg, "Work", 0, ticks, power)
			check(m.Rest(0, 7, ticks, power), api.ErrArg, "Rest", 0, 7, ticks, power)
		}
	}
	holds(t, m, p)
}

func TestWrongWorkAndRest(t *testing.T) {
	m, p := made(t, 2)
	refuses(t, m, p)
	works(t, m, p, 0, 5, 6)
	rests(t, m, p, 0, 7, 5, 6)
	refuses(t, m, p)
	// A core that is full still refuses what can not be by its own error, not by that of too much energy.
	full, q := made(t, 2)
	works(t, full, q, 0, most, most)
	refuses(t, full, q)
}

// TestEnergyAtItsBound: 2^62 can be, one more can not, nor what would wrap round in 64 bits; what is refused has no ticks either.
func TestEnergyAtItsBound(t *testing.T) {
	for way := -1; way < 8; way++ {
		m, p := made(t, 2)
		tell := func(ticks, power int64, want api.Errno) {
			t.Helper()
			ahead := m.Energy(1)
			if way < 0 {
				works(t, m, p, 1, ticks, power)
			} else {
				rests(t, m, p, 1, way, ticks, power)
			}
			if refused := m.Energy(1) == ahead && ticks*power != 0; refused != (want == api.ErrOver) {
				t.Fatalf("%d ticks of %d: energy %d after %d, want error %d", ticks, power, m.Energy(1), ahead, want)
			}
		}
		tell(most, most-1, api.OK)
		tell(most, 2, api.ErrOver)
		tell(most-1, 1, api.OK)
		tell(2, 1, api.ErrOver)
		tell(1, 2, api.ErrOver)
		tell(most, most, api.ErrOver)
		tell(1, 1, api.OK)
		if m.Energy(1) != dearest {
			t.Fatalf("Energy(1) = %d, want 2^62", m.Energy(1))
		}
		tell(1, 1, api.ErrOver)
		tell(most, most, api.ErrOver)
		tell(most, most-1, api.ErrOver)
		tell(most, 0, api.OK)
		tell(0, most, api.OK)
		// The other core's energy does not count.
		works(t, m, p, 0, most, most)
		tell(1, 1, api.ErrOver)
	}
}

func TestNoCoreAndNoWay(t *testing.T) {
	m, p := made(t, 2)
	works(t, m, p, 0, 3, 4)
	rests(t, m, p, 1, 5, 7, 8)
	for _, cpu := range append([]int{2, 3, 63}, noCores...) {
		if m.Energy(cpu) != 0 || m.Ticks(cpu) != 0 || !math.IsNaN(m.Average(cpu)) {
			t.Errorf("core %d: Energy %d, Ticks %d, Average %v", cpu, m.Energy(cpu), m.Ticks(cpu), m.Average(cpu))
		}
		for _, way := range append([]int{0, 5, 7}, noWays...) {
			if m.Rested(cpu, way) != 0 || !math.IsNaN(m.Share(cpu, way)) {
				t.Errorf("core %d, way %d: Rested %d, Share %v", cpu, way, m.Rested(cpu, way), m.Share(cpu, way))
			}
		}
	}
	for cpu := range 2 {
		for _, way := range noWays {
			if m.Rested(cpu, way) != 0 || !alike(m.Share(cpu, way), 0) {
				t.Errorf("core %d, way %d: Rested %d, Share %v", cpu, way, m.Rested(cpu, way), m.Share(cpu, way))
			}
		}
	}
}

// TestNil: that it is not there goes ahead of all that is wrong with what it is handed.
func TestNil(t *testing.T) {
	var m *meter.Meter
	for _, cpu := range append([]int{0, 1, 63}, noCores...) {
		for _, n := range append([]int64{0, 1, most}, wrongNumbers...) {
			if why := m.Work(cpu, n, n); why != api.ErrNil {
				t.Errorf("Work(%d, %d, %d) = %d", cpu, n, n, why)
			}
			for _, way := range append([]int{0, 7}, noWays...) {
				if why := m.Rest(cpu, way, n, n); why != api.ErrNil {
					t.Errorf("Rest(%d, %d, %d, %d) = %d", cpu, way, n, n, why)
				}
			}
		}
		if m.Energy(cpu) != 0 || m.Ticks(cpu) != 0 || !math.IsNaN(m.Average(cpu)) {
			t.Errorf("core %d: Energy %d, Ticks %d, Average %v", cpu, m.Energy(cpu), m.Ticks(cpu), m.Average(cpu))
		}
		for _, way := range append([]int{0, 7}, noWays...) {
			if m.Rested(cpu, way) != 0 || !math.IsNaN(m.Share(cpu, way)) {
				t.Errorf("core %d, way %d: Rested %d, Share %v", cpu, way, m.Rested(cpu, way), m.Share(cpu, way))
			}
		}
	}
}

// TestMeterThatNewDidNotMake: it has no core; nothing panics.
func TestMeterThatNewDidNotMake(t *testing.T) {
	m := &meter.Meter{}
	if m.Work(0, 1, 1) != api.ErrRange || m.Rest(0, 0, 1, 1) != api.ErrRange || m.Energy(0) != 0 || m.Ticks(0) != 0 || m.Rested(0, 0) != 0 || !math.IsNaN(m.Average(0)) || !math.IsNaN(m.Share(0, 0)) {
		t.Error("a meter without cores has one")
	}
}

func TestMetersShareNothing(t *testing.T) {
	a, p := made(t, 3)
	b, q := made(t, 3)
	works(t, a, p, 1, 5, 6)
	rests(t, a, p, 2, 3, 5, 6)
	holds(t, b, q)
	rests(t, b, q, 2, 3, 1, 1)
	holds(t, a, p)
}

// picks makes numbers by a fixed rule.
func picks(state uint64) func(n int64) int64 {
	return func(n int64) int64 {
		state = state*6364136223846793005 + 1442695040888963407
		return int64(state>>11) % n
	}
}

func TestMixedRuns(t *testing.T) {
	pick := picks(25)
	for range 60 {
		m, p := made(t, 1+int(pick(6)))
		scale := int64(1) << (1 + pick(31))
		for range 80 {
			cpu, ticks, power := int(pick(int64(len(p)))), pick(scale+2)-1, pick(scale+2)-1
			if pick(2) == 0 {
				works(t, m, p, cpu, ticks, power)
			} else {
				rests(t, m, p, cpu, int(pick(8)), ticks, power)
			}
		}
	}
}

func TestRate(t *testing.T) {
	up, down, none, minus := math.Inf(1), math.Inf(-1), math.NaN(), math.Copysign(0, -1)
	for _, c := range []struct {
		a, b int64
		want float64
	}{
		{1, 0, up}, {2, 0, up}, {greatest, 0, up}, {-1, 0, down}, {least, 0, down}, {0, 0, none},
		{0, -3, minus}, {0, -1, minus}, {0, least, minus}, {0, 1, 0}, {0, greatest, 0},
		{1, 2, 0.5}, {-1, 2, -0.5}, {1, -2, -0.5}, {-1, -2, 0.5}, {7, 7, 1}, {32, 4, 8}, {1, 3, 1.0 / 3},
		// Each is made a float first: what lies in the middle goes to the even one.
		{1<<53 + 1, 1, 1 << 53}, {1<<53 + 3, 1, 1<<53 + 4}, {1<<53 + 1, 1 << 53, 1}, {1<<53 + 1, 1<<53 + 1, 1},
		{greatest, 1, 1 << 63}, {least, 1, -1 << 63}, {least, -1, 1 << 63}, {greatest, least, -1}, {1, greatest, 1.0 / (1 << 63)},
	} {
		if f := meter.Rate(c.a, c.b); !alike(f, c.want) {
			t.Errorf("Rate(%d, %d) = %v, want %v", c.a, c.b, f, c.want)
		}
	}
}

// TestRateOfAll: against quotients that are made exactly, and rounded once.
func TestRateOfAll(t *testing.T) {
	list := []int64{least, least + 1, -1<<62 - 1, -1<<53 - 1, -1 << 53, -10, -3, -2, -1, 0, 1, 2, 3, 7, 10, 100, 1<<31 - 1, 1 << 31, 1<<53 - 1, 1 << 53, 1<<53 + 1, 1<<53 + 3, 1<<54 + 2, 1<<54 + 6, 1 << 62, 1<<62 + 1, greatest - 512, greatest - 511, greatest - 1, greatest}
	pick := picks(3)
	for range 100 {
		list = append(list, (pick(1<<53)<<11|pick(1<<11))>>pick(63))
	}
	for _, a := range list {
		for _, b := range list {
			if f, want := meter.Rate(a, b), rate(a, b); !alike(f, want) {
				t.Errorf("Rate(%d, %d) = %v, want %v", a, b, f, want)
			}
		}
	}
}

// inOrder has floats as Order must put them; those of one row go ahead of none of it.
func inOrder() [][]float64 {
	return [][]float64{
		{math.Inf(-1)}, {-math.MaxFloat64}, {-1 << 53}, {-1.5}, {math.Nextafter(-1, -2)}, {-1}, {-0x1p-1022}, {-math.SmallestNonzeroFloat64},
		{math.Copysign(0, -1), meter.Rate(0, -5)}, {0, meter.Rate(0, 5)},
		{math.SmallestNonzeroFloat64}, {0x1p-1022}, {math.Nextafter(1, 0)}, {1}, {math.Nextafter(1, 2)}, {2}, {1 << 53}, {math.MaxFloat64},
		{math.Inf(1), meter.Rate(1, 0)},
		{math.NaN(), -math.NaN(), math.Copysign(math.NaN(), -1), math.Float64frombits(0x7ff0000000000001), math.Float64frombits(0xfff0000000000001), math.Float64frombits(0xffffffffffffffff), meter.Rate(0, 0)},
	}
}

func TestOrderAndSame(t *testing.T) {
	for i, row := range inOrder() {
		for k, other := range inOrder() {
			want := 0
			if i < k {
				want = -1
			} else if i > k {
				want = 1
			}
			for _, a := range row {
				for _, b := range other {
					if got := meter.Order(a, b); got != want {
						t.Errorf("Order(%v, %v) = %d, want %d", a, b, got, want)
					}
					if got := meter.Same(a, b); got != (want == 0) {
						t.Errorf("Same(%v, %v) = %t", a, b, got)
					}
				}
			}
		}
	}
}

// anyFloats are those of inOrder, and some of any bits.
func anyFloats(more int) []float64 {
	var l []float64
	for _, row := range inOrder() {
		l = append(l, row...)
	}
	pick := picks(11)
	for range more {
		l = append(l, math.Float64frombits(uint64(pick(1<<53)<<11|pick(1<<11))), -float64(pick(9)), float64(pick(9))/4)
	}
	return l
}

// TestOrderIsOne: what follows: of any three, and of two handed on the other way.
func TestOrderIsOne(t *testing.T) {
	l := anyFloats(15)
	for _, a := range l {
		for _, b := range l {
			ab := meter.Order(a, b)
			if ab != -meter.Order(b, a) {
				t.Fatalf("Order(%v, %v) = %d, the other way it is %d", a, b, ab, meter.Order(b, a))
			}
			if meter.Same(a, b) != alike(a, b) {
				t.Fatalf("Same(%v, %v) = %t", a, b, meter.Same(a, b))
			}
			for _, c := range l {
				bc, ac := meter.Order(b, c), meter.Order(a, c)
				if ab <= 0 && bc <= 0 && ac != min(ab, bc) {
					t.Fatalf("Order of %v, %v, %v: %d, %d, but %d", a, b, c, ab, bc, ac)
				}
			}
		}
	}
}

func TestExample(t *testing.T) {
	minus := meter.Rate(0, -3)
	if !math.IsInf(meter.Rate(1, 0), 1) || minus != 0 || !math.Signbit(minus) || meter.Order(minus, 0) != -1 {
		t.Errorf("Rate(1, 0) = %v, Rate(0, -3) = %v, Order(that, 0) = %d", meter.Rate(1, 0), minus, meter.Order(minus, 0))
	}
}

func TestMostAndLeast(t *testing.T) {
	up, down, none, minus := math.Inf(1), math.Inf(-1), math.NaN(), math.Copysign(0, -1)
	for _, c := range []struct {
		l           []float64
		least, most float64
	}{
		{nil, none, none}, {[]float64{}, none, none}, {[]float64{none}, none, none}, {[]float64{none, -none, none}, none, none},
		{[]float64{5}, 5, 5}, {[]float64{none, 5}, 5, 5}, {[]float64{5, none}, 5, 5},
		{[]float64{minus}, minus, minus}, {[]float64{0}, 0, 0},
		{[]float64{minus, 0}, minus, 0}, {[]float64{0, minus}, minus, 0}, {[]float64{none, 0, none, minus, none}, minus, 0},
		{[]float64{up}, up, up}, {[]float64{down}, down, down}, {[]float64{none, up}, up, up}, {[]float64{down, none}, down, down},
		{[]float64{1, up, none, down, 2}, down, up}, {[]float64{-1, minus}, -1, minus}, {[]float64{0, 1}, 0, 1},
		{[]float64{math.MaxFloat64, up}, math.MaxFloat64, up}, {[]float64{down, -math.MaxFloat64}, down, -math.MaxFloat64},
		{[]float64{3, 1, 2}, 1, 3}, {[]float64{-3, -1, -2}, -3, -1}, {[]float64{math.SmallestNonzeroFloat64, 0}, 0, math.SmallestNonzeroFloat64},
	} {
		if f := meter.Least(c.l...); !alike(f, c.least) {
			t.Errorf("Least(%v) = %v, want %v", c.l, f, c.least)
		}
		if f := meter.Most(c.l...); !alike(f, c.most) {
			t.Errorf("Most(%v) = %v, want %v", c.l, f, c.most)
		}
	}
}

// TestMostAndLeastOfAnyOrder: what follows: each turn of a list has the same ones, which lie at the ends; the list stays as it is.
func TestMostAndLeastOfAnyOrder(t *testing.T) {
	pick := picks(4)
	all := anyFloats(10)
	for range 2000 {
		var l []float64
		for range 1 + pick(8) {
			l = append(l, all[pick(int64(len(all)))])
		}
		low, high := meter.Least(l...), meter.Most(l...)
		for _, x := range l {
			if !math.IsNaN(x) && (meter.Order(low, x) > 0 || meter.Order(x, high) > 0) {
				t.Fatalf("Least(%v) = %v, Most %v", l, low, high)
			}
		}
		for range 12 {
			i, k := pick(int64(len(l))), pick(int64(len(l)))
			l[i], l[k] = l[k], l[i]
			kept := append([]float64{}, l...)
			if f, g := meter.Least(l...), meter.Most(l...); !alike(f, low) || !alike(g, high) {
				t.Fatalf("Least(%v) = %v, Most %v, but %v, %v in another order", l, f, g, low, high)
			}
			for at := range l {
				if math.Float64bits(l[at]) != math.Float64bits(kept[at]) {
					t.Fatalf("%v was changed to %v", kept, l)
				}
			}
		}
		if has := contains(l, low) && contains(l, high); !has && !math.IsNaN(low) {
			t.Fatalf("Least %v and Most %v are not of %v", low, high, l)
		}
	}
}

func contains(l []float64, x float64) bool {
	for _, y := range l {
		if alike(x, y) {
			return true
		}
	}
	return false
}
