package num_test

import (
	"math"
	"math/big"
	"testing"

	"davit/api"
	"davit/num"
)

const (
	least    = math.MinInt64
	greatest = math.MaxInt64
)

// numbers has the edges of 64 bits and of the limits, and some that a fixed rule makes.
func numbers() []int64 {
	list := []int64{least, least + 1, least + 2, least / 2, -1 << 61, -api.MaxTick, -1 << 32, -101, -100, -99, -2, -1, 0, 1, 2, 3, 9, 10, 20, 99, 100, 101, 1 << 32, api.MaxDelay - 1, api.MaxDelay, api.MaxDelay + 1, api.MaxTick - api.MaxDelay, api.MaxTick - 1, api.MaxTick, api.MaxTick + 1, greatest / 100, greatest/100 + 1, 1 << 62, greatest - 1, greatest}
	n := uint64(1)
	for i := range 12 {
		n = n*6364136223846793005 + 1442695040888963407
		list = append(list, int64(n), int64(n>>(i*5+1)))
	}
	return list
}

func percents() []int {
	list := []int{math.MinInt, math.MinInt + 1, -100, -1, math.MaxInt32, 1 << 32, 1<<32 + 50, math.MaxInt - 1, math.MaxInt}
	for p := range 103 {
		list = append(list, p)
	}
	return list
}

func wide(n int64) *big.Int { return big.NewInt(n) }

// fit is what a number of any size is as an answer.
func fit(n *big.Int) (int64, api.Errno) {
	if !n.IsInt64() {
		return 0, api.ErrOver
	}
	return n.Int64(), api.OK
}

func TestAddAndSub(t *testing.T) {
	for _, a := range numbers() {
		for _, b := range numbers() {
			want, f := fit(new(big.Int).Add(wide(a), wide(b)))
			if got, e := num.Add(a, b); got != want || e != f {
				t.Errorf("Add(%d, %d) = %d %d, want %d %d", a, b, got, e, want, f)
			}
			want, f = fit(new(big.Int).Sub(wide(a), wide(b)))
			if got, e := num.Sub(a, b); got != want || e != f {
				t.Errorf("Sub(%d, %d) = %d %d, want %d %d", a, b, got, e, want, f)
			}
		}
	}
}

func TestAddAndSubAtTheEdges(t *testing.T) {
	cases := []struct {
		call func(a, b int64) (int64, api.Errno)
		a, b int64
		want int64
		e    api.Errno
	}{
		{num.Add, greatest, 0, greatest, api.OK},
		{num.Add, greatest, 1, 0, api.ErrOver},
		{num.Add, least, -1, 0, api.ErrOver},
		{num.Add, least, least, 0, api.ErrOver},
		{num.Add, least, greatest, -1, api.OK},
		{num.Sub, least, 1, 0, api.ErrOver},
		{num.Sub, 0, least, 0, api.ErrOver},
		{num.Sub, -1, least, greatest, api.OK},
		{num.Sub, least, least, 0, api.OK},
		{num.Sub, greatest, -1, 0, api.ErrOver},
	}
	for i, c := range cases {
		if got, e := c.call(c.a, c.b); got != c.want || e != c.e {
			t.Errorf("case %d: %d %d, want %d %d", i, got, e, c.want, c.e)
		}
	}
}

func TestLater(t *testing.T) {
	cases := []struct {
		now, delay, want int64
		e                api.Errno
	}{
		{5, 7, 12, api.OK},
		{0, 0, 0, api.OK},
		{0, api.MaxDelay, api.MaxDelay, api.OK},
		{api.MaxTick, 0, api.MaxTick, api.OK},
		{api.MaxTick - api.MaxDelay, api.MaxDelay, api.MaxTick, api.OK},
		{api.MaxTick - api.MaxDelay + 1, api.MaxDelay, 0, api.ErrOver},
		{api.MaxTick, 1, 0, api.ErrOver},
		{api.MaxTick, api.MaxDelay, 0, api.ErrOver},
		{api.MaxTick, api.MaxDelay + 1, 0, api.ErrArg},
		{api.MaxTick + 1, 0, 0, api.ErrArg},
		{api.MaxTick + 1, -1, 0, api.ErrArg},
		{-1, 0, 0, api.ErrArg},
		{-1, 1, 0, api.ErrArg},
		{0, -1, 0, api.ErrArg},
		{1, -1, 0, api.ErrArg},
		{0, api.MaxDelay + 1, 0, api.ErrArg},
		{greatest, greatest, 0, api.ErrArg},
		{least, least, 0, api.ErrArg},
		{greatest, least, 0, api.ErrArg},
	}
	for _, c := range cases {
		if got, e := num.Later(c.now, c.delay); got != c.want || e != c.e {
			t.Errorf("Later(%d, %d) = %d %d, want %d %d", c.now, c.delay, got, e, c.want, c.e)
		}
	}
}

func TestLaterOfAll(t *testing.T) {
	for _, now := range numbers() {
		for _, delay := range numbers() {
			want, f := int64(0), api.OK
			switch {
			case now < 0 || now > 1<<60 || delay < 0 || delay > 1<<30:
				f = api.ErrArg
			case delay > 1<<60-now:
				f = api.ErrOver
			default:
				want = now + delay
			}
			if got, e := num.Later(now, delay); got != want || e != f {
				t.Errorf("Later(%d, %d) = %d %d, want %d %d", now, delay, got, e, want, f)
			}
		}
	}
}

func TestClamp(t *testing.T) {
	cases := []struct{ n, low, high, want int64 }{
		{5, 1, 3, 3},
		{0, 1, 3, 1},
		{2, 1, 3, 2},
		{1, 1, 3, 1},
		{3, 1, 3, 3},
		{7, 4, 4, 4},
		{9, 5, 3, 5},
		{4, 5, 3, 5},
		{0, 5, 3, 5},
		{least, least, greatest, least},
		{greatest, least, greatest, greatest},
		{0, greatest, least, greatest},
		{least, 0, greatest, 0},
		{greatest, least, 0, 0},
	}
	for _, c := range cases {
		if got := num.Clamp(c.n, c.low, c.high); got != c.want {
			t.Errorf("Clamp(%d, %d, %d) = %d, want %d", c.n, c.low, c.high, got, c.want)
		}
	}
}

func TestClampOfAll(t *testing.T) {
	for _, n := range numbers() {
		for _, low := range numbers() {
			for _, high := range numbers() {
				want := max(low, min(n, high))
				if got := num.Clamp(n, low, high); got != want {
					t.Fatalf("Clamp(%d, %d, %d) = %d, want %d", n, low, high, got, want)
				}
			}
		}
	}
}

func percent(part, whole int64) int {
	if part < 1 || whole < 1 {
		return 0
	}
	if part >= whole {
		return 100
	}
	n := new(big.Int).Mul(wide(part), wide(100))
	return int(n.Div(n, wide(whole)).Int64())
}

func TestPercent(t *testing.T) {
	cases := []struct {
		part, whole int64
		want        int
	}{
		{1, 3, 33},
		{2, 3, 66},
		{1, 100, 1},
		{1, 101, 0},
		{99, 100, 99},
		{1, 1, 100},
		{2, 1, 100},
		{0, 5, 0},
		{5, 0, 0},
		{0, 0, 0},
		{-1, -1, 0},
		{5, -5, 0},
		{-5, 5, 0},
		{greatest, greatest, 100},
		{greatest - 1, greatest, 99},
		{1, greatest, 0},
		{1 << 62, greatest, 50},
		{1<<62 - 1, greatest, 49},
		{greatest, 1, 100},
		{least, least, 0},
		{least, greatest, 0},
		{greatest, least, 0},
	}
	for _, c := range cases {
		if got := num.Percent(c.part, c.whole); got != c.want {
			t.Errorf("Percent(%d, %d) = %d, want %d", c.part, c.whole, got, c.want)
		}
	}
	for _, part := range numbers() {
		for _, whole := range numbers() {
			if got := num.Percent(part, whole); got != percent(part, whole) {
				t.Errorf("Percent(%d, %d) = %d, want %d", part, whole, got, percent(part, whole))
			}
		}
	}
}

func TestLog(t *testing.T) {
	for k := range 63 {
		n := int64(1) << k
		if num.Log(n) != k {
			t.Errorf("Log(2^%d) = %d", k, num.Log(n))
		}
		if k > 0 && num.Log(n-1) != k-1 {
			t.Errorf("Log(2^%d - 1) = %d", k, num.Log(n-1))
		}
		if k > 0 && num.Log(n+1) != k {
			t.Errorf("Log(2^%d + 1) = %d", k, num.Log(n+1))
		}
	}
	if num.Log(9) != 3 || num.Log(greatest) != 62 {
		t.Error("Log", num.Log(9), num.Log(greatest))
	}
	for _, n := range []int64{0, -1, -2, -1 << 32, least + 1, least} {
		if num.Log(n) != -1 {
			t.Errorf("Log(%d) = %d", n, num.Log(n))
		}
	}
}

func scale(low, high int64, percent int) int64 {
	if low > high || percent < 1 {
		return low
	}
	if percent >= 100 {
		return high
	}
	n := new(big.Int).Sub(wide(high), wide(low))
	n.Mul(n, wide(int64(percent)))
	n.Div(n, wide(100))
	return n.Add(n, wide(low)).Int64()
}

func TestScale(t *testing.T) {
	cases := []struct {
		low, high int64
		percent   int
		want      int64
	}{
		{10, 20, 55, 15},
		{10, 20, 59, 15},
		{10, 20, 60, 16},
		{10, 20, 0, 10},
		{10, 20, 100, 20},
		{10, 20, 99, 19},
		{10, 20, 1, 10},
		{10, 20, -1, 10},
		{10, 20, 101, 20},
		{7, 7, 50, 7},
		{5, 1, 50, 5},
		{5, 1, 100, 5},
		{5, 1, 0, 5},
		{-20, -10, 55, -15},
		{-3, 0, 50, -2},
		{least, greatest, 50, -1},
		{least, greatest, 100, greatest},
		{least, greatest, 0, least},
		{greatest, least, 50, greatest},
		{greatest, least, math.MaxInt, greatest},
		{least, greatest, math.MaxInt, greatest},
		{least, greatest, math.MinInt, least},
	}
	for _, c := range cases {
		if got := num.Scale(c.low, c.high, c.percent); got != c.want {
			t.Errorf("Scale(%d, %d, %d) = %d, want %d", c.low, c.high, c.percent, got, c.want)
		}
	}
	for _, low := range numbers() {
		for _, high := range numbers() {
			for _, p := range percents() {
				if got := num.Scale(low, high, p); got != scale(low, high, p) {
					t.Fatalf("Scale(%d, %d, %d) = %d, want %d", low, high, p, got, scale(low, high, p))
				}
			}
		}
	}
}

func TestScaleStaysWithinAndDoesNotFall(t *testing.T) {
	for _, low := range numbers() {
		for _, high := range numbers() {
			if low > high {
				continue
			}
			before := low
			for p := -2; p <= 102; p++ {
				got := num.Scale(low, high, p)
				if got < low || got > high || got < before {
					t.Fatalf("Scale(%d, %d, %d) = %d behind %d", low, high, p, got, before)
				}
				before = got
			}
		}
	}
}

func TestGreaterPartIsNoSmallerPercent(t *testing.T) {
	for _, whole := range numbers() {
		for _, part := range numbers() {
			for _, more := range numbers() {
				if part <= more && num.Percent(part, whole) > num.Percent(more, whole) {
					t.Fatalf("of %d: %d has more than %d", whole, part, more)
				}
			}
		}
	}
	for part := int64(-3); part < 250; part++ {
		if num.Percent(part, 237) > num.Percent(part+1, 237) {
			t.Errorf("of 237: %d has more than %d", part, part+1)
		}
	}
}
