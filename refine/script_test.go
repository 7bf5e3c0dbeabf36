package refine_test

import (
	"math"
	"testing"

	"davit/api"
	"davit/kernel"
	"davit/mask"
	"davit/refine"
)

// picks makes numbers by a fixed rule.
func picks(state uint64) func(n int) int {
	return func(n int) int {
		state = state*6364136223846793005 + 1442695040888963407
		return int(state>>33) % n
	}
}

// odd are numbers that are next to nothing that there is.
var odd = []int64{math.MinInt64, -1 << 60, -1 << 32, -64, -2, -1, 0, 1, 15, 16, 31, 32, 33, 47, 48, 49, 63, 64, 65, 95, 96, 97, 1 << 30, 1<<30 + 1, 1 << 32, 1<<32 + 1, 1 << 60, math.MaxInt64}

// anyEvent is an event of any kind, a part of them steps, mostly of things that may be there.
func anyEvent(pick func(n int) int, cpus, steps int) api.Ev {
	e := api.Ev{Kind: api.EvStep, Cpu: pick(cpus)}
	if pick(10) < steps {
		return e
	}
	e.Kind = pick(33) - 1
	if pick(3) == 0 {
		e.Kind = []int{api.EvSpawn, api.EvArm, api.EvQueue, api.EvCall, api.EvAlloc}[pick(5)]
	}
	e.Id = []int{pick(4), pick(8), pick(17), pick(36), pick(100) - 1}[pick(5)]
	e.Mask = uint64(pick(1<<31)) * uint64(pick(1<<31)) >> pick(8) & uint64(mask.Upto(cpus))
	e.N = []int64{int64(pick(4)), int64(pick(12)), int64(pick(100)), int64(e.Id) + int64(pick(300))}[pick(4)]
	switch pick(30) {
	case 0:
		e.Cpu = int(odd[pick(len(odd))])
	case 1:
		e.Id = int(odd[pick(len(odd))])
	case 2:
		e.Mask = []uint64{0, 1 << 63, math.MaxUint64}[pick(3)]
	case 3:
		e.N = odd[pick(len(odd))]
	case 4:
		e.Cpu = -1
	case 5:
		e.Kind = int(odd[pick(len(odd))])
	}
	// Readers are there seldom, so that requests come to their ends.
	if e.Kind == api.EvHold && pick(3) > 0 {
		e.Kind = api.EvDrop
	}
	return e
}

// seen is how many records of each kind, and errors, a script has.
type seen struct {
	kinds [8]int
	whys  [18]int
}

func (s *seen) count(cpus int, l []api.Ev) {
	k, _ := kernel.New(cpus)
	for _, e := range l {
		for _, r := range k.Do(e) {
			s.kinds[r.Kind]++
			s.whys[r.Why]++
		}
	}
}

// P30.3: Check is OK for all events.
func TestScripts(t *testing.T) {
	var s seen
	for n, c := range []struct{ cpus, events, steps int }{
		{1, 6000, 5}, {1, 3000, 2}, {2, 12000, 5}, {2, 6000, 7}, {2, 6000, 2}, {3, 8000, 5}, {5, 8000, 6}, {17, 4000, 6}, {63, 2000, 6}, {64, 4000, 7}, {64, 2000, 3},
	} {
		pick := picks(uint64(30 + n))
		var l []api.Ev
		for range c.events {
			l = append(l, anyEvent(pick, c.cpus, c.steps))
		}
		if n, why := refine.Check(c.cpus, l...); n != len(l) || why != api.OK {
			t.Fatalf("Check of %d cores: %d, %d: %+v", c.cpus, n, why, l[n])
		}
		s.count(c.cpus, l)
	}
	for kind, many := range s.kinds {
		if kind > 0 && many < 20 {
			t.Errorf("of the record %d there were %d", kind, many)
		}
	}
	for _, why := range []api.Errno{api.OK, api.ErrArg, api.ErrRange, api.ErrNone, api.ErrFull, api.ErrState, api.ErrBusy, api.ErrOnline, api.ErrOffline, api.ErrLast, api.ErrFail, api.ErrEmpty} {
		if s.whys[why] < 5 {
			t.Errorf("of the error %d there were %d", why, s.whys[why])
		}
	}
}

// under is events of a core that goes, or comes, while things come to it and to others, and readers hold it up.
func under(pick func(n int) int, cpus, kind, cpu int) []api.Ev {
	l := []api.Ev{{Kind: kind, Cpu: cpu}}
	kinds := []int{api.EvSpawn, api.EvArm, api.EvQueue, api.EvCall, api.EvAlloc, api.EvSleep, api.EvGive, api.EvHold, api.EvExit, api.EvTick}
	for range 30 {
		l = append(l, api.Ev{Kind: kinds[pick(10)], Cpu: []int{cpu, pick(cpus)}[pick(2)], Id: pick(8), Mask: 1 << cpu, N: int64(pick(30))}, api.Ev{Kind: api.EvStep, Cpu: pick(cpus)})
		for one := range cpus {
			l = append(l, api.Ev{Kind: api.EvDrop, Cpu: one}, api.Ev{Kind: api.EvStep, Cpu: one})
		}
		l = append(l, api.Ev{Kind: api.EvStep})
	}
	return l
}

// P30.3, of cores that go and come under load, one after another, with each stage planned to fail.
func TestCoresUnderLoad(t *testing.T) {
	for _, c := range []struct{ cpus, rounds int }{{2, 60}, {3, 60}, {64, 10}} {
		pick := picks(uint64(300 + c.cpus))
		var l []api.Ev
		for round := range c.rounds {
			if round%3 == 2 {
				l = append(l, api.Ev{Kind: api.EvFail, N: int64(round / 3 % 10)})
			}
			l = append(l, under(pick, c.cpus, []int{api.EvOffline, api.EvOffline, api.EvOnline}[pick(3)], pick(c.cpus))...)
		}
		if n, why := refine.Check(c.cpus, l...); n != len(l) || why != api.OK {
			t.Fatalf("Check of %d cores: %d, %d: %+v", c.cpus, n, why, l[n])
		}
		var s seen
		s.count(c.cpus, l)
		if s.kinds[api.RecHot] < c.rounds/3 || s.whys[api.ErrFail] < 2 || s.whys[api.ErrOffline] < 8 {
			t.Errorf("of %d cores: %+v", c.cpus, s)
		}
	}
}

// P30.3 at full lists: 48 timers, 32 threads, works and calls, 96 objects, 1000 readers.
func TestFullLists(t *testing.T) {
	for _, cpus := range []int{1, 2, 64} {
		var l []api.Ev
		for _, c := range []struct{ kind, many int }{{api.EvSpawn, 34}, {api.EvArm, 50}, {api.EvQueue, 34}, {api.EvCall, 34}, {api.EvAlloc, 100}, {api.EvHold, 1002}} {
			for n := range c.many {
				l = append(l, api.Ev{Kind: c.kind, Cpu: n % cpus, Id: n % 8, Mask: 1})
			}
		}
		for n := range 100 {
			l = append(l, api.Ev{Kind: api.EvGive, Cpu: n / 3 % cpus, Id: n}, api.Ev{Kind: api.EvAlloc, Cpu: n % cpus}, api.Ev{Kind: api.EvStep, Cpu: n % cpus})
		}
		if n, why := refine.Check(cpus, l...); n != len(l) || why != api.OK {
			t.Fatalf("Check of %d cores: %d, %d: %+v", cpus, n, why, l[n])
		}
		var s seen
		s.count(cpus, l)
		if s.whys[api.ErrFull] < 12 {
			t.Errorf("of %d cores there were %d lists full", cpus, s.whys[api.ErrFull])
		}
	}
}

// P30.3 at the end of the clock: it goes on by the longest delay 2^30 times at most, so it is not tried event by event; what it refuses is.
func TestClock(t *testing.T) {
	var l []api.Ev
	for range 300 {
		l = append(l, api.Ev{Kind: api.EvTick, N: api.MaxDelay}, api.Ev{Kind: api.EvTick, N: api.MaxDelay + 1}, api.Ev{Kind: api.EvTick, N: -1}, api.Ev{Kind: api.EvArm, N: api.MaxDelay}, api.Ev{Kind: api.EvStep}, api.Ev{Kind: api.EvStep})
	}
	if n, why := refine.Check(2, l...); n != len(l) || why != api.OK {
		t.Error("Check", n, why)
	}
}
