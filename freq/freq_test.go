package freq_test

import (
	"math"
	"math/big"
	"testing"

	"davit/api"
	"davit/freq"
)

const (
	least    = math.MinInt64
	greatest = math.MaxInt64
	mostAll  = 1 << 40 // steps that a feed may have
)

// fine and wrong are limits that can be, and that can not.
var (
	fine  = [][2]int64{{1, 1}, {1, 2}, {1, 100000}, {100000, 100000}, {99999, 100000}, {100, 200}, {100, 1000}, {5, 5}}
	wrong = [][2]int64{{0, 5}, {0, 0}, {-1, 5}, {-5, -1}, {least, 5}, {least, greatest}, {5, 4}, {2, 1}, {1, 0}, {1, -1}, {5, least}, {greatest, least}, {5, 100001}, {100001, 100001}, {100001, 5}, {100000, 99999}, {1, 1 << 32}, {1<<32 + 1, 1<<32 + 2}, {1, greatest}, {greatest, greatest}, {0, 100001}}
)

// wrongFeeds are those that can not be: busy steps, and all.
var wrongFeeds = [][2]int64{{-1, 0}, {-1, 2}, {-1, -1}, {-1, -2}, {-2, -1}, {least, 0}, {least, least}, {least, greatest}, {1, 0}, {3, 2}, {0, -1}, {0, least}, {1, -1}, {greatest, 0}, {greatest, least}, {greatest, mostAll}, {0, mostAll + 1}, {1, mostAll + 1}, {mostAll, mostAll - 1}, {mostAll + 1, mostAll}, {mostAll + 1, mostAll + 1}, {0, greatest}, {greatest, greatest}, {-1, mostAll + 1}}

func made(t *testing.T, low, high int64) *freq.Gov {
	t.Helper()
	g, why := freq.New(low, high)
	if why != api.OK || g == nil {
		t.Fatalf("New(%d, %d) = %v, %d", low, high, g, why)
	}
	return g
}

// plain is what a governor must be: its limits, and all its feeds from the first one on.
type plain struct {
	low, high int64
	feeds     [][2]int64
}

// hundredth is part times 100 by whole, rounded down, in numbers of any size.
func hundredth(part, whole *big.Int) *big.Int {
	return new(big.Int).Div(new(big.Int).Mul(part, big.NewInt(100)), whole)
}

func (p *plain) busy() int {
	part, whole := new(big.Int), new(big.Int)
	for _, f := range p.feeds[max(0, len(p.feeds)-4):] {
		part.Add(part, big.NewInt(f[0]))
		whole.Add(whole, big.NewInt(f[1]))
	}
	if whole.Sign() == 0 {
		return 0
	}
	return int(hundredth(part, whole).Int64())
}

func (p *plain) freq() int64 {
	return p.low + (p.high-p.low)*int64(p.busy())/100
}

func (p *plain) feed(busy, all int64) {
	p.feeds = append(p.feeds, [2]int64{busy, all})
}

// feeds tells a feed to both, and holds what they answer against each other.
func feeds(t *testing.T, g *freq.Gov, p *plain, busy, all int64) {
	t.Helper()
	p.feed(busy, all)
	if n, why := g.Feed(busy, all); n != p.freq() || why != api.OK {
		t.Fatalf("Feed(%d, %d) = %d, %d, want %d of %+v", busy, all, n, why, p.freq(), p)
	}
	holds(t, "fed", g, p)
}

// holds says by each call that only looks that a governor is as the plain one, and its frequency within its limits.
func holds(t *testing.T, what string, g *freq.Gov, p *plain) {
	t.Helper()
	if low, high := g.Limits(); low != p.low || high != p.high {
		t.Fatalf("%s: Limits() = %d, %d, want %d, %d", what, low, high, p.low, p.high)
	}
	if g.Busy() != p.busy() {
		t.Fatalf("%s: Busy() = %d, want %d of %+v", what, g.Busy(), p.busy(), p)
	}
	if n := g.Freq(); n != p.freq() || n < p.low || n > p.high {
		t.Fatalf("%s: Freq() = %d, want %d of %+v", what, n, p.freq(), p)
	}
}

// refuses says that limits and feeds that can not be are refused, and nothing is changed by them.
func refuses(t *testing.T, g *freq.Gov, p *plain) {
	t.Helper()
	for _, two := range wrong {
		if why := g.Set(two[0], two[1]); why != api.ErrArg {
			t.Fatalf("Set(%d, %d) = %d", two[0], two[1], why)
		}
		holds(t, "refused", g, p)
	}
	for _, two := range wrongFeeds {
		if n, why := g.Feed(two[0], two[1]); n != 0 || why != api.ErrArg {
			t.Fatalf("Feed(%d, %d) = %d, %d", two[0], two[1], n, why)
		}
		holds(t, "refused", g, p)
	}
}

func TestNew(t *testing.T) {
	for _, two := range fine {
		g, p := made(t, two[0], two[1]), &plain{low: two[0], high: two[1]}
		holds(t, "new", g, p)
		refuses(t, g, p)
	}
	for _, two := range wrong {
		if g, why := freq.New(two[0], two[1]); g != nil || why != api.ErrArg {
			t.Errorf("New(%d, %d) = %v, %d", two[0], two[1], g, why)
		}
	}
}

func TestExample(t *testing.T) {
	if n, why := made(t, 100, 200).Feed(1, 2); n != 150 || why != api.OK {
		t.Errorf("Feed(1, 2) = %d, %d, want 150", n, why)
	}
}

// TestSet: the feeds stay, the frequency goes with the limits.
func TestSet(t *testing.T) {
	g, p := made(t, 100, 200), &plain{low: 100, high: 200}
	for _, f := range [][2]int64{{1, 2}, {3, 3}, {0, 0}, {0, 5}, {7, 9}} {
		feeds(t, g, p, f[0], f[1])
		for _, two := range fine {
			if why := g.Set(two[0], two[1]); why != api.OK {
				t.Fatalf("Set(%d, %d) = %d", two[0], two[1], why)
			}
			p.low, p.high = two[0], two[1]
			holds(t, "set", g, p)
		}
		refuses(t, g, p)
	}
}

// TestTheLastFourCount: a feed counts in just four frequencies, its own and those of three more feeds, wherever in the array it stands.
func TestTheLastFourCount(t *testing.T) {
	for ahead := range 9 {
		g, p := made(t, 1, 100000), &plain{low: 1, high: 100000}
		for range ahead {
			feeds(t, g, p, 0, 1)
		}
		feeds(t, g, p, 1, 1)
		for behind := range 6 {
			counts := g.Busy() > 0
			if counts != (behind < 4) {
				t.Fatalf("Busy() = %d, %d feeds behind a busy one", g.Busy(), behind)
			}
			feeds(t, g, p, 0, 1)
		}
	}
}

// TestFeedWithoutSteps: it is a feed, too, ahead of which the eldest goes.
func TestFeedWithoutSteps(t *testing.T) {
	g, p := made(t, 100, 1000), &plain{low: 100, high: 1000}
	for range 3 {
		feeds(t, g, p, 0, 0)
	}
	if g.Busy() != 0 || g.Freq() != 100 {
		t.Fatalf("Busy() = %d, Freq() = %d without steps", g.Busy(), g.Freq())
	}
	feeds(t, g, p, 5, 5)
	for k := range 4 {
		if g.Busy() != 100 || g.Freq() != 1000 {
			t.Fatalf("Busy() = %d, Freq() = %d, %d feeds without steps behind", g.Busy(), g.Freq(), k)
		}
		feeds(t, g, p, 0, 0)
	}
	if g.Busy() != 0 || g.Freq() != 100 {
		t.Fatalf("Busy() = %d, Freq() = %d when all steps have gone", g.Busy(), g.Freq())
	}
}

// TestStepsCountNotFeeds: a feed of many steps weighs more than one of few.
func TestStepsCountNotFeeds(t *testing.T) {
	g, p := made(t, 100, 200), &plain{low: 100, high: 200}
	feeds(t, g, p, 1, 1)
	feeds(t, g, p, 0, 99)
	if g.Busy() != 1 || g.Freq() != 101 {
		t.Errorf("Busy() = %d, Freq() = %d, want 1, 101", g.Busy(), g.Freq())
	}
}

// TestRoundedDown: of the part, and of the way between the limits.
func TestRoundedDown(t *testing.T) {
	g, p := made(t, 10, 19), &plain{low: 10, high: 19}
	feeds(t, g, p, 2, 3)
	if g.Busy() != 66 || g.Freq() != 15 {
		t.Errorf("Busy() = %d, Freq() = %d, want 66, 15", g.Busy(), g.Freq())
	}
}

func TestGreatestFeeds(t *testing.T) {
	g, p := made(t, 1, 100000), &plain{low: 1, high: 100000}
	for range 6 {
		feeds(t, g, p, mostAll, mostAll)
	}
	for range 6 {
		feeds(t, g, p, mostAll-1, mostAll)
		feeds(t, g, p, mostAll-1, mostAll-1)
		feeds(t, g, p, 0, mostAll)
		feeds(t, g, p, 0, 0)
		refuses(t, g, p)
	}
}

// TestLowAndHigh: four feeds without a busy step make it low, four of busy steps alone high, whatever was ahead.
func TestLowAndHigh(t *testing.T) {
	for _, two := range fine {
		for ahead := range 6 {
			g, p := made(t, two[0], two[1]), &plain{low: two[0], high: two[1]}
			for k := range ahead {
				feeds(t, g, p, int64(k), int64(2*k+1))
			}
			for k := range 4 {
				feeds(t, g, p, int64(k%3), int64(k%3))
			}
			if g.Freq() != two[1] || g.Busy() != 100 {
				t.Fatalf("Freq() = %d of %v, all busy", g.Freq(), two)
			}
			for k := range 4 {
				feeds(t, g, p, 0, int64(k*k))
			}
			if g.Freq() != two[0] || g.Busy() != 0 {
				t.Fatalf("Freq() = %d of %v, none busy", g.Freq(), two)
			}
		}
	}
}

func TestLookingChangesNothing(t *testing.T) {
	g, p := made(t, 100, 200), &plain{low: 100, high: 200}
	feeds(t, g, p, 1, 3)
	for range 6 {
		holds(t, "looked at", g, p)
	}
}

func TestGovernorsShareNothing(t *testing.T) {
	a, b := made(t, 100, 200), made(t, 100, 200)
	p, q := &plain{low: 100, high: 200}, &plain{low: 100, high: 200}
	feeds(t, a, p, 1, 2)
	holds(t, "the other", b, q)
	feeds(t, b, q, 3, 3)
	holds(t, "the one", a, p)
	if why := b.Set(1, 9); why != api.OK {
		t.Fatalf("Set(1, 9) = %d", why)
	}
	holds(t, "the one", a, p)
}

// TestNil: that it is not there goes ahead of all that is wrong with what it is handed.
func TestNil(t *testing.T) {
	var g *freq.Gov
	for _, two := range append(append([][2]int64{}, fine...), wrong...) {
		if why := g.Set(two[0], two[1]); why != api.ErrNil {
			t.Errorf("Set(%d, %d) = %d", two[0], two[1], why)
		}
	}
	for _, two := range append([][2]int64{{0, 0}, {1, 2}, {2, 2}, {mostAll, mostAll}}, wrongFeeds...) {
		if n, why := g.Feed(two[0], two[1]); n != 0 || why != api.ErrNil {
			t.Errorf("Feed(%d, %d) = %d, %d", two[0], two[1], n, why)
		}
	}
	low, high := g.Limits()
	if g.Freq() != 0 || g.Busy() != 0 || low != 0 || high != 0 {
		t.Errorf("Freq() = %d, Busy() = %d, Limits() = %d, %d", g.Freq(), g.Busy(), low, high)
	}
}

// TestGovernorThatNewDidNotMake: its limits are 0 till they are set; nothing panics.
func TestGovernorThatNewDidNotMake(t *testing.T) {
	g, p := &freq.Gov{}, &plain{}
	holds(t, "zero", g, p)
	refuses(t, g, p)
	for k := range 6 {
		feeds(t, g, p, int64(k), 9)
	}
	if why := g.Set(5, 9); why != api.OK {
		t.Fatalf("Set(5, 9) = %d", why)
	}
	p.low, p.high = 5, 9
	holds(t, "set", g, p)
}

func TestMixedRuns(t *testing.T) {
	state := uint64(24)
	below := func(n int64) int64 {
		state = state*6364136223846793005 + 1442695040888963407
		return int64(state>>11) % n
	}
	for range 60 {
		low := 1 + below(100000)
		high := low + below(100001-low)
		g, p := made(t, low, high), &plain{low: low, high: high}
		scale := int64(1) << (1 + below(40))
		for range 60 {
			switch below(8) {
			case 0:
				refuses(t, g, p)
			case 1:
				p.low = 1 + below(1000)
				p.high = p.low + below(99000)
				if why := g.Set(p.low, p.high); why != api.OK {
					t.Fatalf("Set(%d, %d) = %d", p.low, p.high, why)
				}
				holds(t, "set", g, p)
			default:
				all := below(scale + 1)
				feeds(t, g, p, below(all+1), all)
			}
		}
	}
}
