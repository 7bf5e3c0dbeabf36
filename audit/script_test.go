package audit_test

import (
	"testing"

	"davit/api"
	"davit/audit"
)

// met is what the pictures of a run had, and how often.
type met map[string]int

// look counts what is in a picture.
func (m met) look(p audit.Picture) {
	for name, there := range map[string]bool{
		"no request": !p.Busy, "going": p.Busy && !p.Up, "coming": p.Up,
		"going, active": p.Busy && !p.Up && p.Active == p.Online, "going, not active": p.Busy && !p.Up && p.Active != p.Online,
		"coming, with power": p.Up && p.Power != p.Online, "coming, without": p.Up && p.Power == p.Online,
		"one core": p.Online.Many() == 1, "a core away": p.Online.Many() < p.Cpus,
		"full threads": len(p.Threads) == api.MaxThreads, "full timers": len(p.Timers) == api.MaxTimers,
		"full works": len(p.Works) == api.MaxWorks, "full calls": len(p.Calls) == api.MaxCalls,
	} {
		if there {
			m[name]++
		}
	}
	for _, t := range p.Threads {
		if t.Timer != 0 {
			m["asleep"]++
			if !p.Active.Has(t.Cpu) {
				m["asleep away"]++
			}
		}
	}
	for at, l := range lists(&p) {
		name := []string{"queued", "timer", "irq", "work", "call", "kept"}[at]
		for _, x := range *l {
			m[name]++
			if x.Cpu == -1 {
				m[name+" of none"]++
			} else if !p.Active.Has(x.Cpu) {
				m[name+" that is to leave"]++
			}
			if x.Who > 0 {
				m[name+" that wakes"]++
			}
		}
	}
}

// P35.4: whatever events come, all rules hold. P35.1, at each of them.
func TestScripts(t *testing.T) {
	m := met{}
	for n, c := range []struct{ cpus, events, steps int }{
		{1, 2000, 5}, {1, 1500, 2}, {2, 5000, 5}, {2, 3000, 7}, {2, 3000, 2}, {3, 5000, 5}, {3, 3000, 8}, {5, 4000, 6}, {17, 2000, 6}, {63, 800, 6}, {64, 1000, 7}, {64, 800, 3},
	} {
		pick := picks(uint64(350 + n))
		k := made(t, c.cpus)
		for range c.events {
			e := anyEvent(pick, c.cpus, c.steps)
			k.Do(e)
			p := of(t, k)
			alike(t, p, plainOf(k))
			judged(t, p)
			m.look(p)
		}
	}
	for _, name := range []string{
		"no request", "going", "coming", "going, active", "going, not active", "coming, with power", "coming, without", "one core", "a core away", "full threads", "asleep", "asleep away",
		"queued", "timer", "irq", "work", "call", "kept", "timer that wakes", "work of none",
	} {
		if m[name] < 100 {
			t.Errorf("%s: %d times", name, m[name])
		}
	}
}

// under is events of a core that goes, or comes, while things come to it and to others, and readers hold it up.
func under(pick func(n int) int, cpus, kind, cpu int) []api.Ev {
	l := []api.Ev{}
	kinds := []int{api.EvSpawn, api.EvArm, api.EvQueue, api.EvCall, api.EvAlloc, api.EvSleep, api.EvGive, api.EvHold, api.EvExit, api.EvTick, api.EvRequest, api.EvRaise, api.EvWake}
	add := func(many int) {
		for range many {
			l = append(l, api.Ev{Kind: kinds[pick(len(kinds))], Cpu: []int{cpu, pick(cpus)}[pick(2)], Id: pick(16), Mask: 1 << cpu, N: int64(pick(30))})
		}
	}
	add(60)
	l = append(l, api.Ev{Kind: kind, Cpu: cpu})
	for range 40 {
		add(1)
		for one := range min(cpus, 6) {
			l = append(l, api.Ev{Kind: api.EvDrop, Cpu: one}, api.Ev{Kind: api.EvStep, Cpu: one}, api.Ev{Kind: api.EvStep})
		}
		l = append(l, api.Ev{Kind: api.EvStep, Cpu: pick(cpus)})
	}
	return l
}

// P35.4, of cores that go and come under load, one after another, with each stage planned to fail.
func TestCoresUnderLoad(t *testing.T) {
	m := met{}
	for _, c := range []struct{ cpus, rounds int }{{2, 60}, {3, 60}, {6, 40}, {64, 6}} {
		pick := picks(uint64(3500 + c.cpus))
		k := made(t, c.cpus)
		for round := range c.rounds {
			if round%3 == 2 {
				k.Do(api.Ev{Kind: api.EvFail, N: int64(round / 3 % 10)})
			}
			for _, e := range under(pick, c.cpus, []int{api.EvOffline, api.EvOffline, api.EvOnline}[pick(3)], pick(min(c.cpus, 6))) {
				k.Do(e)
				p := of(t, k)
				judged(t, p)
				m.look(p)
			}
		}
	}
	for _, name := range []string{"going, not active", "coming, with power", "queued that is to leave", "timer that is to leave", "irq that is to leave", "work that is to leave", "call that is to leave", "kept that is to leave", "asleep away"} {
		if m[name] < 50 {
			t.Errorf("%s: %d times", name, m[name])
		}
	}
}

// P35.4 at full lists.
func TestFullLists(t *testing.T) {
	for _, cpus := range []int{1, 2, 64} {
		k := made(t, cpus)
		m := met{}
		do := func(e api.Ev) {
			k.Do(e)
			p := of(t, k)
			judged(t, p)
			m.look(p)
		}
		for _, c := range []struct{ kind, many int }{{api.EvSpawn, 34}, {api.EvRequest, 17}, {api.EvArm, 50}, {api.EvQueue, 34}, {api.EvCall, 34}, {api.EvAlloc, 100}} {
			for n := range c.many {
				do(api.Ev{Kind: c.kind, Cpu: n % cpus, Id: n % 16, Mask: 1, N: int64(n)})
			}
		}
		for n := range 33 {
			do(api.Ev{Kind: api.EvSpawn, Id: n % 8, Mask: 1})
			do(api.Ev{Kind: api.EvGive, Id: n + 1, Cpu: n / 5 % cpus})
		}
		do(api.Ev{Kind: api.EvOffline, Cpu: cpus - 1})
		for n := range 400 {
			do(api.Ev{Kind: api.EvStep, Cpu: n % cpus})
		}
		for _, name := range []string{"full threads", "full timers", "full works", "full calls"} {
			if m[name] == 0 {
				t.Errorf("%d cores: never %s", cpus, name)
			}
		}
	}
}

// P35.4 at far ticks, and of events that are none.
func TestOddEvents(t *testing.T) {
	k := made(t, 3)
	for _, kind := range odd {
		for _, n := range odd {
			k.Do(api.Ev{Kind: int(kind), Cpu: int(n), Id: int(n), Mask: uint64(n), N: n})
			k.Do(api.Ev{Kind: 1 + int(uint64(kind+n)%30), Cpu: int(n), Id: int(kind), Mask: uint64(kind), N: n})
			k.Do(api.Ev{Kind: api.EvTick, N: api.MaxDelay})
			judged(t, of(t, k))
		}
	}
}
