package audit_test

import (
	"math"
	"reflect"
	"slices"
	"testing"

	"davit/api"
	"davit/audit"
	"davit/kernel"
	"davit/mask"
)

// picks makes numbers by a fixed rule.
func picks(state uint64) func(n int) int {
	return func(n int) int {
		state = state*6364136223846793005 + 1442695040888963407
		return int(state>>33) % n
	}
}

// odd are numbers that are next to nothing that there is.
var odd = []int64{math.MinInt64, -1 << 60, -1 << 32, -64, -2, -1, 0, 1, 15, 16, 31, 32, 33, 47, 48, 49, 63, 64, 65, 95, 96, 97, 1 << 30, 1<<30 + 1, 1 << 32, 1<<32 + 1, 1 << 60, math.MaxInt64}

// anyEvent is an event of any kind, a part of them steps, mostly of things that may be there.
func anyEvent(pick func(n int) int, cpus, steps int) api.Ev {
	e := api.Ev{Kind: api.EvStep, Cpu: pick(cpus)}
	if pick(10) < steps {
		return e
	}
	e.Kind = pick(33) - 1
	if pick(3) == 0 {
		e.Kind = []int{api.EvSpawn, api.EvArm, api.EvQueue, api.EvCall, api.EvAlloc, api.EvSleep, api.EvRequest, api.EvRaise}[pick(8)]
	}
	e.Id = []int{pick(4), pick(8), pick(17), pick(36), pick(100) - 1}[pick(5)]
	e.Mask = uint64(pick(1<<31)) * uint64(pick(1<<31)) >> pick(8) & uint64(mask.Upto(cpus))
	e.N = []int64{int64(pick(4)), int64(pick(12)), int64(pick(100)), int64(e.Id) + int64(pick(300))}[pick(4)]
	switch pick(30) {
	case 0:
		e.Cpu = int(odd[pick(len(odd))])
	case 1:
		e.Id = int(odd[pick(len(odd))])
	case 2:
		e.Mask = []uint64{0, 1 << 63, math.MaxUint64}[pick(3)]
	case 3:
		e.N = odd[pick(len(odd))]
	case 4:
		e.Cpu = -1
	case 5:
		e.Kind = int(odd[pick(len(odd))])
	}
	// Readers are there seldom, so that requests come to their ends.
	if e.Kind == api.EvHold && pick(3) > 0 {
		e.Kind = api.EvDrop
	}
	return e
}

// made is a new kernel.
func made(t *testing.T, cpus int) *kernel.Kernel {
	t.Helper()
	k, why := kernel.New(cpus)
	if why != api.OK {
		t.Fatalf("New(%d): %d", cpus, why)
	}
	return k
}

// lists are a picture's lists of places.
func lists(p *audit.Picture) []*[]audit.Place {
	return []*[]audit.Place{&p.Queued, &p.Timers, &p.Irqs, &p.Works, &p.Calls, &p.Kept}
}

// copied is a picture that shares nothing with another one, and whose empty lists are nil.
func copied(p audit.Picture) audit.Picture {
	p.Threads = append([]audit.Thread(nil), p.Threads...)
	for _, l := range lists(&p) {
		*l = append([]audit.Place(nil), *l...)
	}
	return p
}

// alike says that a picture is another one.
func alike(t *testing.T, got, want audit.Picture) {
	t.Helper()
	if !reflect.DeepEqual(copied(got), copied(want)) {
		t.Fatalf("the picture is\n%+v, want\n%+v", got, want)
	}
}

// of is a kernel's picture.
func of(t *testing.T, k *kernel.Kernel) audit.Picture {
	t.Helper()
	p, why := audit.Of(k)
	if why != api.OK {
		t.Fatal("Of", why)
	}
	return p
}

// plainOf is a kernel's picture, put together by asking each number whether there is such a thing, and where.
func plainOf(k *kernel.Kernel) audit.Picture {
	p := audit.Picture{Cpus: k.Cpus(), Online: k.Online(), Active: k.Active(), Busy: k.Desk().Busy(), Up: k.Desk().Up(), Cpu: k.Desk().Cpu(), By: k.Desk().By()}
	whom := map[int]int{}
	for id := 1; id <= api.MaxThreads; id++ {
		if one, why := k.Threads().Get(id); why == api.OK {
			p.Threads = append(p.Threads, audit.Thread{Id: id, Cpu: one.Cpu, Timer: one.Timer})
			if one.Sleeps {
				whom[one.Timer] = id
			}
		}
	}
	for n := range api.MaxIrqs {
		if one, _ := k.Irqs().Get(n); one.Wanted {
			cpu := -1
			for c := range p.Cpus {
				if slices.Contains(k.Route().On(c), n) {
					cpu = c
				}
			}
			p.Irqs = append(p.Irqs, audit.Place{Id: n, Cpu: cpu})
		}
	}
	add := func(to *[]audit.Place, cpu int, ids []int) {
		for _, id := range ids {
			*to = append(*to, audit.Place{Id: id, Cpu: cpu})
		}
	}
	add(&p.Works, -1, k.Works().List(-1))
	for cpu := range p.Cpus {
		if one, _ := k.Cores().Get(cpu); one.Power {
			p.Power |= 1 << cpu
		}
		add(&p.Queued, cpu, k.Queues().List(cpu))
		for _, id := range k.Timers().List(cpu) {
			p.Timers = append(p.Timers, audit.Place{Id: id, Cpu: cpu, Who: whom[id]})
		}
		add(&p.Works, cpu, k.Works().List(cpu))
		add(&p.Calls, cpu, k.Calls().List(cpu))
		add(&p.Kept, cpu, k.Objects().Kept(cpu))
	}
	return p
}

// in tells whether a core is in a mask, by the mask's bits.
func in(m mask.Mask, cpu int) bool {
	return cpu >= 0 && cpu < 64 && uint64(m)>>cpu&1 == 1
}

// plainRule is the chapter's rules, word by word: each thing is held against each other one.
func plainRule(p audit.Picture, n int) bool {
	upto := func(cpu int) bool { return cpu >= 0 && cpu < 64 && cpu < p.Cpus }
	mayBe := func(cpu int) bool { return in(p.Active, cpu) || p.Busy && !p.Up && p.Cpu == cpu }
	switch n {
	case 1:
		some := false
		for cpu := range 64 {
			some = some || in(p.Active, cpu)
			if in(p.Active, cpu) && !in(p.Online, cpu) || in(p.Online, cpu) && !in(p.Power, cpu) || in(p.Power, cpu) && !upto(cpu) {
				return false
			}
		}
		return some
	case 2:
		return plainQueued(p)
	case 3:
		return plainSleepers(p)
	case 4:
		for _, l := range [][]audit.Place{p.Queued, p.Timers, p.Irqs, p.Calls, p.Kept} {
			for _, x := range l {
				if !mayBe(x.Cpu) {
					return false
				}
			}
		}
		for _, x := range p.Works {
			if x.Cpu != -1 && !mayBe(x.Cpu) {
				return false
			}
		}
		return true
	case 5:
		for cpu := range 64 {
			perhaps := p.Busy && p.Up && p.Cpu == cpu
			if in(p.Power, cpu) != in(p.Online, cpu) && !(perhaps && in(p.Power, cpu)) {
				return false
			}
		}
		return true
	case 6:
		for _, l := range [][]audit.Place{p.Timers, p.Irqs, p.Works, p.Calls, p.Kept} {
			for at, x := range l {
				for _, y := range l[:at] {
					if x.Id == y.Id {
						return false
					}
				}
			}
		}
		return true
	case 7:
		return !p.Busy || p.Cpu != p.By && in(p.Active, p.By) && upto(p.Cpu) && in(p.Online, p.Cpu) == !p.Up
	}
	return false
}

// plainQueued is the second rule.
func plainQueued(p audit.Picture) bool {
	for _, t := range p.Threads {
		many, there := 0, 0
		for _, x := range p.Queued {
			if x.Id == t.Id {
				many++
				if x.Cpu == t.Cpu {
					there++
				}
			}
		}
		if t.Timer == 0 && (many != 1 || there != 1) || t.Timer != 0 && many > 0 {
			return false
		}
	}
	for _, x := range p.Queued {
		if !slices.ContainsFunc(p.Threads, func(t audit.Thread) bool { return t.Id == x.Id }) {
			return false
		}
	}
	return true
}

// plainSleepers is the third rule.
func plainSleepers(p audit.Picture) bool {
	for _, t := range p.Threads {
		many, its := 0, 0
		for _, x := range p.Timers {
			if x.Id == t.Timer {
				many++
				if x.Who == t.Id {
					its++
				}
			}
		}
		if t.Timer != 0 && (many != 1 || its != 1) {
			return false
		}
	}
	for _, x := range p.Timers {
		if x.Who > 0 && !slices.ContainsFunc(p.Threads, func(t audit.Thread) bool { return t.Id == x.Who && t.Timer == x.Id }) {
			return false
		}
	}
	return true
}

// judged says what each rule, and Check, must tell of a picture: which rules are broken.
func judged(t *testing.T, p audit.Picture, broken ...int) {
	t.Helper()
	first, why := 0, api.OK
	for n := audit.Rules; n >= 1; n-- {
		holds := !slices.Contains(broken, n)
		if got := audit.Rule(p, n); got != holds {
			t.Fatalf("Rule %d = %v of %+v", n, got, p)
		}
		if !holds {
			first, why = n, api.ErrState
		}
	}
	if n, e := audit.Check(p); n != first || e != why {
		t.Fatalf("Check = %d, %d, want %d, %d of %+v", n, e, first, why, p)
	}
}

// plainly is which rules are broken by a picture.
func plainly(p audit.Picture) []int {
	var broken []int
	for n := 1; n <= 7; n++ {
		if !plainRule(p, n) {
			broken = append(broken, n)
		}
	}
	return broken
}
