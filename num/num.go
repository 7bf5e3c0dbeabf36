// Package num is layer 2: whole numbers. See shared/doc/02-num.md.
package num

import (
	"math/bits"

	"davit/api"
)

// Add is a plus b.
func Add(a, b int64) (int64, api.Errno) {
	sum := a + b
	// A sum that went the wrong way has wrapped round.
	if b > 0 && sum < a || b < 0 && sum > a {
		return 0, api.ErrOver
	}
	return sum, api.OK
}

// Sub is a less b. It is no Add of -b: the least number has no opposite.
func Sub(a, b int64) (int64, api.Errno) {
	rest := a - b
	if b > 0 && rest > a || b < 0 && rest < a {
		return 0, api.ErrOver
	}
	return rest, api.OK
}

// Later is the tick that is delay behind now.
func Later(now, delay int64) (int64, api.Errno) {
	if now < 0 || now > api.MaxTick || delay < 0 || delay > api.MaxDelay {
		return 0, api.ErrArg
	}
	// Both are within their bounds here, so the sum can not wrap round.
	tick := now + delay
	if tick > api.MaxTick {
		return 0, api.ErrOver
	}
	return tick, api.OK
}

// Clamp is the number from low to high that is nearest to n; low, if there is none.
func Clamp(n, low, high int64) int64 {
	if low > high || n < low {
		return low
	}
	if n > high {
		return high
	}
	return n
}

// Percent is how many hundredths of whole part is, rounded down, from 0 to 100.
func Percent(part, whole int64) int {
	if part < 1 || whole < 1 {
		return 0
	}
	if part >= whole {
		return 100
	}
	return int(share(uint64(part), 100, uint64(whole)))
}

// Scale is the number that lies percent hundredths of the way from low to high, rounded down.
func Scale(low, high int64, percent int) int64 {
	if low > high || percent < 1 {
		return low
	}
	if percent >= 100 {
		return high
	}
	// The way may be longer than an int64 holds; without signs it always fits, and the sum wraps round to the right number.
	way := uint64(high) - uint64(low)
	return int64(uint64(low) + share(way, uint64(percent), 100))
}

// share is n times by, divided by of, rounded down. The product has 128 bits so that it is exact.
// What it answers must fit in 64 bits: n below of, or by below of.
func share(n, by, of uint64) uint64 {
	high, low := bits.Mul64(n, by)
	result, _ := bits.Div64(high, low, of)
	return result
}

// Log is the greatest k with 2^k not above n; -1, if there is none.
func Log(n int64) int {
	if n < 1 {
		return -1
	}
	return bits.Len64(uint64(n)) - 1
}
