package fair_test

import (
	"math"
	"testing"

	"davit/api"
	"davit/kernel"
	"davit/mask"
)

// rolls makes numbers by a fixed rule.
func rolls(state uint64) func(n int) int {
	return func(n int) int {
		state = state*6364136223846793005 + 1442695040888963407
		return int(state>>33) % n
	}
}

// odd are numbers that are next to nothing that there is.
var odd = []int64{math.MinInt64, -1 << 60, -1 << 32, -64, -2, -1, 0, 1, 15, 16, 31, 32, 33, 47, 48, 49, 63, 64, 65, 95, 96, 97, 1 << 30, 1<<30 + 1, 1 << 32, 1<<32 + 1, 1 << 60, math.MaxInt64}

// anyEvent is an event of any kind, a part of them steps, mostly of things that may be there.
func anyEvent(roll func(n int) int, cpus, steps int) api.Ev {
	e := api.Ev{Kind: api.EvStep, Cpu: roll(cpus)}
	if roll(10) < steps {
		return e
	}
	e.Kind = roll(33) - 1
	if roll(2) == 0 {
		e.Kind = []int{api.EvSpawn, api.EvArm, api.EvQueue, api.EvCall, api.EvAlloc, api.EvSleep, api.EvRequest, api.EvRaise}[roll(8)]
	}
	e.Id = []int{roll(4), roll(8), roll(17), roll(36), roll(100) - 1}[roll(5)]
	e.Mask = uint64(roll(1<<31)) * uint64(roll(1<<31)) >> roll(8) & uint64(mask.Upto(cpus))
	e.N = []int64{int64(roll(4)), int64(roll(12)), int64(roll(100)), int64(e.Id) + int64(roll(300))}[roll(4)]
	switch roll(40) {
	case 0:
		e.Cpu = int(odd[roll(len(odd))])
	case 1:
		e.Id = int(odd[roll(len(odd))])
	case 2:
		e.N = odd[roll(len(odd))]
	case 3:
		e.Cpu = -1
	}
	return e
}

// made is a new kernel.
func made(t *testing.T, cpus int) *kernel.Kernel {
	t.Helper()
	k, why := kernel.New(cpus)
	if why != api.OK {
		t.Fatalf("New(%d): %d", cpus, why)
	}
	return k
}

// after is a new kernel to which events are done, each of which is answered OK.
func after(t *testing.T, cpus int, l ...api.Ev) *kernel.Kernel {
	t.Helper()
	k := made(t, cpus)
	for _, e := range l {
		for _, r := range k.Do(e) {
			if r.Why != api.OK {
				t.Fatalf("Do(%+v) = %+v", e, r)
			}
		}
	}
	return k
}

// plainFair looks for each core in each window, one pick after another.
func plainFair(picks []int, of mask.Mask, window int) bool {
	if window < 1 {
		return false
	}
	for first := range picks {
		if window > len(picks)-first {
			break
		}
		for cpu := range 64 {
			there := uint64(of)>>cpu&1 == 0
			for _, pick := range picks[first : first+window] {
				there = there || pick == cpu
			}
			if !there {
				return false
			}
		}
	}
	return true
}

// plainStill asks each number whether it is of something that waits.
func plainStill(k *kernel.Kernel) bool {
	if k == nil || k.Desk().Busy() {
		return false
	}
	for n := range 16 {
		if one, _ := k.Irqs().Get(n); one.Wanted && one.Pending && !one.Masked {
			return false
		}
	}
	for id := range 100 {
		due, there := k.Timers().When(id)
		if k.Works().Has(id) || k.Calls().Has(id) || there && due <= k.Now() {
			return false
		}
	}
	return true
}

// plainDrive is Drive, step by step.
func plainDrive(k *kernel.Kernel, picks []int) (int, api.Errno) {
	done := 0
	for !plainStill(k) && done < len(picks) {
		k.Do(api.Ev{Kind: api.EvStep, Cpu: picks[done]})
		done++
	}
	if plainStill(k) {
		return done, api.OK
	}
	return done, api.ErrBusy
}

// inTurn is picks of one core after another.
func inTurn(cpus, many int) []int {
	l := make([]int, many)
	for at := range l {
		l[at] = at % cpus
	}
	return l
}

// favoured is picks of one core as often as can be: the others come once in a window.
func favoured(cpus, window, which, many int) []int {
	l := make([]int, many)
	for at := range l {
		l[at] = which
		if n := at % window; n < cpus-1 {
			l[at] = (which + 1 + n) % cpus
		}
	}
	return l
}

// shuffled is picks of all cores in any order, again and again; twice as many as there are cores, less 1, have each one.
func shuffled(roll func(n int) int, cpus, many int) []int {
	var l []int
	for len(l) < many {
		from := len(l)
		l = append(l, inTurn(cpus, cpus)...)
		for at := cpus - 1; at > 0; at-- {
			other := roll(at + 1)
			l[from+at], l[from+other] = l[from+other], l[from+at]
		}
	}
	return l[:many]
}

// late is any picks, also of no cores, as long as each core can be picked in time still; else the one that must be first.
func late(roll func(n int) int, cpus, window, many int) []int {
	last := make([]int, cpus)
	for cpu := range last {
		last[cpu] = -1
	}
	// can tells whether all cores can be in time from a pick on.
	can := func(at int) bool {
		for left := range window {
			must := 0
			for _, was := range last {
				if was+window < at {
					return false
				}
				if was+window <= at+left {
					must++
				}
			}
			if must > left+1 {
				return false
			}
		}
		return true
	}
	l := make([]int, many)
	for at := range l {
		cpu := roll(cpus+1) - 1
		if cpu >= 0 {
			was := last[cpu]
			last[cpu] = at
			if can(at + 1) {
				l[at] = cpu
				continue
			}
			last[cpu] = was
		} else if can(at + 1) {
			l[at] = int(odd[roll(6)])
			continue
		}
		first := 0
		for other, was := range last {
			if was < last[first] {
				first = other
			}
		}
		last[first], l[at] = at, first
	}
	return l
}
