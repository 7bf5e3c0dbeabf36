// Package mask is layer 1: sets of cores. See shared/doc/01-mask.md.
package mask

import (
	"math/bits"

	"davit/api"
)

// Mask is a set of cores: the core k is in it, if the bit k is 1.
type Mask uint64

// bit is the mask of one core; a number that is no core gives the empty mask, so that no caller has to ask first.
func bit(cpu int) Mask {
	if cpu < 0 || cpu >= api.MaxCpu {
		return 0
	}
	return Mask(1) << uint(cpu)
}

// Of is the mask of those of cpus that are cores.
func Of(cpus ...int) Mask {
	return Mask(0).With(cpus...)
}

// Upto is the mask of the first n cores.
func Upto(n int) Mask {
	if n < 1 {
		return 0
	}
	if n >= api.MaxCpu {
		return ^Mask(0)
	}
	return bit(n) - 1
}

// Has tells whether cpu is in m.
func (m Mask) Has(cpu int) bool {
	return m&bit(cpu) != 0
}

// With is m, and those of cpus that are cores.
func (m Mask) With(cpus ...int) Mask {
	for _, cpu := range cpus {
		m |= bit(cpu)
	}
	return m
}

// Less is m without cpu.
func (m Mask) Less(cpu int) Mask {
	return m &^ bit(cpu)
}

// And is what is in both.
func (m Mask) And(o Mask) Mask {
	return m & o
}

// Or is what is in one of them, or in both.
func (m Mask) Or(o Mask) Mask {
	return m | o
}

// Not is what is in m, and not in o.
func (m Mask) Not(o Mask) Mask {
	return m &^ o
}

// Many is how many cores m has.
func (m Mask) Many() int {
	return bits.OnesCount64(uint64(m))
}

// First is the lowest core of m.
func (m Mask) First() (int, api.Errno) {
	if m == 0 {
		return 0, api.ErrEmpty
	}
	return bits.TrailingZeros64(uint64(m)), api.OK
}

// Last is the greatest core of m.
func (m Mask) Last() (int, api.Errno) {
	if m == 0 {
		return 0, api.ErrEmpty
	}
	return bits.Len64(uint64(m)) - 1, api.OK
}

// Next is the lowest core of m above cpu; behind the last one it begins again at the lowest.
func (m Mask) Next(cpu int) (int, api.Errno) {
	above := m.above(cpu)
	if above == 0 {
		return m.First()
	}
	return above.First()
}

// above is the cores of m that are greater than cpu.
func (m Mask) above(cpu int) Mask {
	// The greatest number has none above it that could be told: cpu + 1 would wrap round.
	if cpu >= api.MaxCpu {
		return 0
	}
	return m.Not(Upto(cpu + 1))
}

// List is all cores of m, rising.
func (m Mask) List() []int {
	list := make([]int, 0, m.Many())
	for cpu := range api.MaxCpu {
		if m.Has(cpu) {
			list = append(list, cpu)
		}
	}
	return list
}

// Within tells whether all cores of m are in o.
func (m Mask) Within(o Mask) bool {
	return m.Not(o) == 0
}
