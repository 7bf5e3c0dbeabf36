package drill_test

import (
	"math"
	"math/big"

	"davit/api"
)

// seeds are those at the edges, and some others.
var seeds = []uint64{0, 1, 1 << 63, math.MaxUint64, 2, 12345, 1<<63 - 1, 1<<63 + 1, 1<<33 - 1, 1 << 33, 0x9e3779b97f4a7c15}

// noCpus are numbers of cores of which there is no event.
var noCpus = []int{0, -1, -2, -64, 65, 66, 128, 1 << 31, 1 << 32, 1<<32 + 1, 1<<32 + 64, math.MinInt, math.MinInt + 1, math.MaxInt}

// noBelow are numbers that nothing is rolled below.
var noBelow = []int{0, -1, -2, -1 << 31, 1<<31 + 1, 1<<31 + 2, 1 << 32, 1<<32 + 1, 1<<32 + 5, 1 << 62, math.MinInt, math.MinInt + 1, math.MaxInt}

// What a number is times, what it is plus, what is dropped of it, and how much of it is below the bits that are told.
var (
	times   = number("6364136223846793005")
	plus    = number("1442695040888963407")
	dropped = number("18446744073709551616")
	lower   = number("8589934592")
)

func number(text string) *big.Int {
	n, _ := new(big.Int).SetString(text, 10)
	return n
}

// plain is dice in numbers of any size.
type plain struct {
	number *big.Int
}

func newPlain(seed uint64) *plain {
	return &plain{new(big.Int).SetUint64(seed)}
}

// roll is the upper 31 bits of the next number, modulo below.
func (p *plain) roll(below int64) int64 {
	n := new(big.Int).Mul(p.number, times)
	n.Add(n, plus)
	p.number = n.Mod(n, dropped)
	upper := new(big.Int).Div(p.number, lower)
	return upper.Mod(upper, big.NewInt(below)).Int64()
}

// event is the next event, and its mask as it was rolled.
func (p *plain) event(cpus int) (api.Ev, uint64) {
	var e api.Ev
	k := p.roll(100)
	if k < 60 {
		e.Kind = 1
	}
	if k >= 60 && k < 66 {
		e.Kind = 2
	}
	if k >= 66 {
		e.Kind = int(3 + p.roll(28))
	}
	e.Cpu = int(p.roll(int64(cpus)))
	e.Id = int(p.roll(6))
	e.N = p.roll(20)
	rolled := uint64(p.roll(255) + 1)
	for cpu := range cpus {
		e.Mask |= rolled & (1 << cpu)
	}
	if e.Mask == 0 {
		e.Mask = 1
	}
	return e, rolled
}

// script is so many events.
func (p *plain) script(cpus, many int) []api.Ev {
	var l []api.Ev
	for range many {
		e, _ := p.event(cpus)
		l = append(l, e)
	}
	return l
}

// sum is one number of all that events are.
func sum(l []api.Ev) uint64 {
	var n uint64
	for _, e := range l {
		for _, field := range []uint64{uint64(e.Kind), uint64(e.Cpu), uint64(e.Id), e.Mask, uint64(e.N)} {
			n = n*1000003 + field
		}
	}
	return n
}
