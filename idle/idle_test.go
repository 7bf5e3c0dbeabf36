package idle_test

import (
	"math"
	"math/big"
	"slices"
	"testing"

	"davit/api"
	"davit/idle"
)

const (
	least    = math.MinInt64
	greatest = math.MaxInt64
)

// way is a State by its three numbers.
func way(exit, rest, power int64) idle.State {
	return idle.State{Exit: exit, Least: rest, Power: power}
}

// rightTables are ways that can be tables.
func rightTables() [][]idle.State {
	return [][]idle.State{
		idle.Table(),
		{way(0, 0, 0)},
		{way(0, 0, greatest)},
		{way(0, 0, 5), way(0, 0, 5)},
		{way(0, 0, 5), way(3, 0, 5), way(3, 9, 5), way(3, 9, 0)},
		{way(0, 0, greatest), way(greatest, greatest, greatest), way(greatest, greatest, 0)},
		many(8),
	}
}

// many is so many ways, each deeper than the one ahead.
func many(n int) []idle.State {
	l := []idle.State{}
	for at := range n {
		l = append(l, way(int64(at), int64(at*10), int64(100-at)))
	}
	return l
}

// picks makes numbers by a fixed rule.
func picks(state uint64) func(n int) int {
	return func(n int) int {
		state = state*6364136223846793005 + 1442695040888963407
		return int(state>>33) % n
	}
}

func TestTable(t *testing.T) {
	want := []idle.State{way(0, 0, 100), way(2, 10, 60), way(10, 50, 25), way(50, 400, 5)}
	if l := idle.Table(); !slices.Equal(l, want) {
		t.Errorf("Table() = %v, want %v", l, want)
	}
	if !idle.Right(idle.Table()...) {
		t.Error("Table() is not Right")
	}
}

func TestTableIsTheCallersOwn(t *testing.T) {
	want, one, two := idle.Table(), idle.Table(), idle.Table()
	for at := range one {
		one[at] = way(-1, -1, -1)
	}
	_ = append(one[:2], way(7, 7, 7), way(8, 8, 8), way(9, 9, 9))
	if !slices.Equal(two, want) || !slices.Equal(idle.Table(), want) {
		t.Errorf("Table is %v, then %v, after one was written into", two, idle.Table())
	}
}

func TestRight(t *testing.T) {
	for _, l := range rightTables() {
		if !idle.Right(l...) {
			t.Errorf("Right(%v) = false", l)
		}
	}
	for n := range 20 {
		if right := idle.Right(many(n)...); right != (n >= 1 && n <= 8) {
			t.Errorf("Right of %d ways = %v", n, right)
		}
	}
}

func TestNotRight(t *testing.T) {
	var none []idle.State
	for _, l := range [][]idle.State{
		none,
		{},
		{way(1, 0, 5)},
		{way(-1, 0, 5)},
		{way(least, 0, 5)},
		{way(0, 1, 5)},
		{way(0, -1, 5)},
		{way(0, greatest, 5)},
		{way(0, 0, -1)},
		{way(0, 0, least)},
		{way(0, 0, 5), way(0, 0, 6)},
		{way(0, 0, 5), way(0, 0, -1)},
		{way(0, 0, 0), way(0, 0, -1)},
		{way(0, 0, 0), way(1, 1, least)},
		{way(0, 0, 5), way(-1, 0, 5)},
		{way(0, 0, 5), way(0, -1, 5)},
		{way(0, 0, 5), way(least, 0, 5)},
		{way(0, 0, 5), way(3, 3, 4), way(2, 3, 4)},
		{way(0, 0, 5), way(3, 3, 4), way(3, 2, 4)},
		{way(0, 0, 5), way(3, 3, 4), way(3, 3, 5)},
		{way(0, 0, greatest), way(greatest, greatest, 1), way(least, greatest, 1)},
	} {
		if idle.Right(l...) {
			t.Errorf("Right(%v) = true", l)
		}
	}
}

// TestRightAtEachPlace: one number that is wrong, at any place, is enough.
func TestRightAtEachPlace(t *testing.T) {
	for n := 1; n <= 8; n++ {
		for at := range n {
			for k := range 4 {
				l := many(n)
				switch k {
				case 0:
					l[at].Exit = int64(at) - 2
				case 1:
					l[at].Least = int64(at)*10 - 11
				case 2:
					l[at].Power = -1
				default:
					if at == 0 {
						continue
					}
					l[at].Power = 102 - int64(at)
				}
				if idle.Right(l...) {
					t.Errorf("Right(%v) = true, wrong at %d", l, at)
				}
			}
		}
	}
}

// TestRightOfAllSmallOnes holds every list of up to three ways of small numbers against the document's words.
func TestRightOfAllSmallOnes(t *testing.T) {
	var ways []idle.State
	for k := range 27 {
		ways = append(ways, way(int64(k%3-1), int64(k/3%3-1), int64(k/9-1)))
	}
	check := func(l ...idle.State) {
		want := l[0].Exit == 0 && l[0].Least == 0
		for at, s := range l {
			want = want && s.Power >= 0
			if at > 0 {
				a := l[at-1]
				want = want && !(s.Exit < a.Exit) && !(s.Least < a.Least) && !(s.Power > a.Power)
			}
		}
		if right := idle.Right(l...); right != want {
			t.Errorf("Right(%v) = %v", l, right)
		}
	}
	for _, a := range ways {
		check(a)
		for _, b := range ways {
			check(a, b)
			for _, c := range ways {
				check(a, b, c)
			}
		}
	}
}

func TestChooseOfTheDocument(t *testing.T) {
	if at := idle.Choose(idle.Table(), 60, 20); at != 2 {
		t.Errorf("Choose(Table(), 60, 20) = %d, want 2", at)
	}
}

// TestChooseAtTheEdges: each way's Exit and Least, and one to either side.
func TestChooseAtTheEdges(t *testing.T) {
	for _, c := range []struct {
		rest, limit int64
		want        int
	}{
		{0, 0, 0}, {0, greatest, 0}, {greatest, 0, 0},
		{9, 2, 0}, {10, 2, 1}, {11, 2, 1}, {10, 1, 0}, {greatest, 1, 0}, {10, greatest, 1},
		{49, 10, 1}, {50, 10, 2}, {51, 11, 2}, {50, 9, 1}, {greatest, 9, 1}, {50, greatest, 2},
		{399, 50, 2}, {400, 50, 3}, {401, 51, 3}, {400, 49, 2}, {greatest, 49, 2}, {greatest, greatest, 3},
		{api.MaxDelay, api.MaxDelay, 3},
		{-1, 100, 0}, {1000, -1, 0}, {-1, -1, 0}, {least, greatest, 0}, {greatest, least, 0}, {least, least, 0},
	} {
		if at := idle.Choose(idle.Table(), c.rest, c.limit); at != c.want {
			t.Errorf("Choose(Table(), %d, %d) = %d, want %d", c.rest, c.limit, at, c.want)
		}
	}
}

// TestChooseWithoutAWay: of a list without ways, and of one none of whose ways can be.
func TestChooseWithoutAWay(t *testing.T) {
	for _, l := range [][]idle.State{nil, {}, {way(9, 9, 9)}, {way(0, 9, 9), way(9, 0, 9), way(greatest, greatest, 0)}} {
		for _, n := range []int64{least, -1, 0, 8} {
			if at := idle.Choose(l, n, n); at != 0 {
				t.Errorf("Choose(%v, %d, %d) = %d", l, n, n, at)
			}
		}
	}
}

// TestChooseOfAnyWays: the ways need be no table: the greatest place counts, though ways ahead of it can not be, and though there are more of them than eight.
func TestChooseOfAnyWays(t *testing.T) {
	l := []idle.State{way(50, 50, 1), way(3, 90, 2), way(4, 5, 9), way(90, 3, 9), way(-7, -7, -1), way(8, 8, 8)}
	for _, c := range []struct {
		rest, limit int64
		want        int
	}{{5, 5, 4}, {8, 8, 5}, {7, 8, 4}, {8, 7, 4}, {-7, -7, 4}, {-8, -7, 0}, {-7, -8, 0}, {100, 100, 5}} {
		if at := idle.Choose(l, c.rest, c.limit); at != c.want {
			t.Errorf("Choose(%v, %d, %d) = %d, want %d", l, c.rest, c.limit, at, c.want)
		}
	}
	if at := idle.Choose(many(1000), 5000, 700); at != 500 {
		t.Errorf("Choose of a thousand = %d, want 500", at)
	}
}

// chosen is what Choose must tell, by the ways that can be.
func chosen(l []idle.State, rest, limit int64) int {
	can := []int{0}
	for at, s := range l {
		if !(s.Exit > limit) && !(s.Least > rest) {
			can = append(can, at)
		}
	}
	return slices.Max(can)
}

func TestChooseOfMixedWays(t *testing.T) {
	pick := picks(23)
	for range 20000 {
		var l []idle.State
		for range pick(12) {
			l = append(l, way(int64(pick(12)-2), int64(pick(12)-2), int64(pick(12)-2)))
		}
		kept := slices.Clone(l)
		rest, limit := int64(pick(14)-3), int64(pick(14)-3)
		if at := idle.Choose(l, rest, limit); at != chosen(l, rest, limit) {
			t.Fatalf("Choose(%v, %d, %d) = %d, want %d", l, rest, limit, at, chosen(l, rest, limit))
		}
		idle.Right(l...)
		idle.Cost(l, pick(14)-1, rest)
		if !slices.Equal(l, kept) {
			t.Fatalf("%v was changed to %v", kept, l)
		}
	}
}

// TestWakesWithinTheLimit: what follows, of ways that are Right; and a longer rest, or a greater limit, is no lighter way.
func TestWakesWithinTheLimit(t *testing.T) {
	for _, l := range append(rightTables(), rightOnes()...) {
		for limit := int64(-2); limit < 60; limit++ {
			last := 0
			for rest := int64(-2); rest < 450; rest++ {
				at := idle.Choose(l, rest, limit)
				if limit >= 0 && l[at].Exit > limit {
					t.Fatalf("Choose(%v, %d, %d) = %d wakes too late", l, rest, limit, at)
				}
				if limit < 0 && at != 0 {
					t.Fatalf("Choose(%v, %d, %d) = %d", l, rest, limit, at)
				}
				if at < last || at > idle.Choose(l, rest, limit+1) {
					t.Fatalf("Choose(%v, %d, %d) = %d is a lighter way", l, rest, limit, at)
				}
				last = at
			}
		}
	}
}

// rightOnes are some more ways that can be tables.
func rightOnes() [][]idle.State {
	pick := picks(7)
	var tables [][]idle.State
	for range 40 {
		l := []idle.State{way(0, 0, int64(pick(1000)))}
		for range pick(8) {
			a := l[len(l)-1]
			l = append(l, way(a.Exit+int64(pick(20)), a.Least+int64(pick(100)), int64(pick(int(a.Power)+1))))
		}
		tables = append(tables, l)
	}
	return tables
}

func TestPredict(t *testing.T) {
	const far = api.MaxDelay
	for _, c := range []struct{ now, due, want int64 }{
		{5, 9, 4}, {0, 1, 1}, {0, 0, 0}, {7, 7, 0}, {9, 5, 0}, {8, 7, 0}, {7, 8, 1},
		{0, far - 1, far - 1}, {0, far, far}, {0, far + 1, far}, {3, far + 2, far - 1}, {3, far + 3, far}, {3, far + 4, far},
		{0, api.MaxTick, far}, {api.MaxTick - 1, api.MaxTick, 1}, {api.MaxTick, api.MaxTick, 0}, {api.MaxTick, 0, 0},
		{0, greatest, far}, {greatest - 1, greatest, 1}, {greatest, greatest, 0}, {greatest, 0, 0}, {greatest - far, greatest, far},
		{-1, 5, 0}, {-1, 0, 0}, {-1, greatest, 0}, {least, greatest, 0}, {least, 0, 0}, {least, least + 5, 0},
		{-9, -5, 0}, {5, -9, 0}, {0, -1, 0}, {greatest, least, 0}, {0, least, 0}, {least, least, 0},
	} {
		if n := idle.Predict(c.now, c.due, true); n != c.want {
			t.Errorf("Predict(%d, %d, true) = %d, want %d", c.now, c.due, n, c.want)
		}
		if n := idle.Predict(c.now, c.due, false); n != far {
			t.Errorf("Predict(%d, %d, false) = %d, want %d", c.now, c.due, n, far)
		}
	}
}

// numbers has the edges of 64 bits and of what a cost is told of.
func numbers() []int64 {
	return []int64{least, least + 1, -1 << 32, -1<<31 - 1, -1 << 31, -100, -1, 0, 1, 2, 99, 1<<31 - 1, 1 << 31, 1<<31 + 1, 1 << 32, 1<<32 + 1, 1 << 62, greatest - 1, greatest}
}

func TestCost(t *testing.T) {
	for at, power := range []int64{100, 60, 25, 5} {
		for _, ticks := range []int64{0, 1, 2, 4, 1000, 1<<31 - 1, 1 << 31} {
			if n := idle.Cost(idle.Table(), at, ticks); n != power*ticks {
				t.Errorf("Cost(Table(), %d, %d) = %d, want %d", at, ticks, n, power*ticks)
			}
		}
	}
	bound := big.NewInt(1 << 31)
	in := func(n *big.Int) bool { return n.Sign() >= 0 && n.Cmp(bound) <= 0 }
	for _, power := range numbers() {
		// The other numbers of a way, and the ways beside it, do not count.
		l := []idle.State{way(0, 0, 7), way(least, greatest, power), way(-1, -1, -1)}
		for _, ticks := range numbers() {
			want, p, n := new(big.Int), big.NewInt(power), big.NewInt(ticks)
			if in(p) && in(n) {
				want.Mul(p, n)
			}
			if got := idle.Cost(l, 1, ticks); !want.IsInt64() || got != want.Int64() {
				t.Errorf("Cost of the power %d, of %d ticks = %d, want %v", power, ticks, got, want)
			}
		}
	}
}

// TestCostOfNoPlace: of places that there are not, and of lists without a way, nothing is told.
func TestCostOfNoPlace(t *testing.T) {
	for _, l := range [][]idle.State{nil, {}, {way(0, 0, 3)}, idle.Table(), many(8), many(12)} {
		for _, at := range []int{math.MinInt, -1 << 32, -2, -1, len(l), len(l) + 1, 64, 1 << 32, 1<<32 - 1, math.MaxInt} {
			for _, ticks := range numbers() {
				if n := idle.Cost(l, at, ticks); n != 0 {
					t.Errorf("Cost(%v, %d, %d) = %d", l, at, ticks, n)
				}
			}
		}
		for at := range l {
			if n := idle.Cost(l, at, 3); n != 3*l[at].Power {
				t.Errorf("Cost(%v, %d, 3) = %d", l, at, n)
			}
		}
	}
}
