package whole_test

import (
	"reflect"
	"testing"

	"davit/api"
	"davit/audit"
	"davit/drill"
	"davit/fair"
	"davit/gate"
	"davit/idle"
	"davit/kernel"
	"davit/mask"
	"davit/model"
	"davit/refine"
	"davit/replay"
	"davit/tally"
)

// scripts hands on rolled scripts of 1 to 64 cores, in which readers leave again, and cores go and come more often than the dice would let them.
func scripts(t *testing.T, many int, try func(seed, cpus int, l []api.Ev)) {
	t.Helper()
	for seed := range many {
		cpus := 1 + seed%6
		if seed%9 == 0 {
			cpus = 1 + seed*7%64
		}
		dice := drill.New(uint64(seed))
		var l []api.Ev
		for len(l) < 1200 {
			e := dice.Event(cpus)
			switch n := dice.Roll(30); {
			case n < 2:
				e.Kind = api.EvOffline + n*(api.EvOnline-api.EvOffline)
			case n < 5 || e.Kind == api.EvHold && n < 20:
				e.Kind = api.EvDrop
			case n < 8 && e.Kind == api.EvStep:
				e.Kind = api.EvSpawn + dice.Roll(api.EvBalance-api.EvSpawn+1)
			}
			l = append(l, e)
		}
		try(seed, cpus, l)
	}
}

// P1: what a kernel does is what a model may do, and the audit's rules hold; what is answered by an error leaves what is there as it was.
func TestRefines(t *testing.T) {
	refused := 0
	scripts(t, 40, func(seed, cpus int, l []api.Ev) {
		if many, why := refine.Check(cpus, l...); many != len(l) || why != api.OK {
			t.Fatalf("seed %d, %d cores: Check = %d, %d", seed, cpus, many, why)
		}
		k, _ := kernel.New(cpus)
		for at, e := range l {
			was, pic := state(t, k)
			recs := k.Do(e)
			now, then := state(t, k)
			if len(recs) == 1 && recs[0].Kind == api.RecRet && recs[0].Why != api.OK {
				refused++
				if !reflect.DeepEqual(was, now) || !reflect.DeepEqual(pic, then) {
					t.Fatalf("seed %d, event %d: %+v is refused, and changes something", seed, at, e)
				}
			}
			if rule, why := audit.Check(then); rule != 0 || why != api.OK {
				t.Fatalf("seed %d, event %d: the rule %d does not hold", seed, at, rule)
			}
		}
	})
	if refused < 3000 {
		t.Error("refused", refused)
	}
}

// state is what a kernel is, as a model, and as a picture.
func state(t *testing.T, k *kernel.Kernel) (model.State, audit.Picture) {
	t.Helper()
	s, why := refine.Of(k)
	p, e := audit.Of(k)
	if why != api.OK || e != api.OK {
		t.Fatal("state", why, e)
	}
	return s, p
}

// P1: each work and call that was answered by a number is done once, or is there still; and each timer, but those that were taken back.
func TestDoneOnce(t *testing.T) {
	type thing struct{ kind, id int }
	done := 0
	scripts(t, 40, func(seed, cpus int, l []api.Ev) {
		k, _ := kernel.New(cpus)
		here := map[thing]bool{}
		for at, e := range l {
			for _, r := range k.Do(e) {
				kind := map[int]int{api.EvQueue: api.RecWork, api.EvCall: api.RecCall, api.EvArm: api.RecFire}[e.Kind]
				switch {
				case r.Kind == api.RecRet && r.Why == api.OK && kind != 0:
					if here[thing{kind, r.Id}] {
						t.Fatalf("seed %d, event %d: the number of %+v is another one's", seed, at, r)
					}
					here[thing{kind, r.Id}] = true
				case r.Kind == api.RecRet && r.Why == api.OK && e.Kind == api.EvCancel:
					delete(here, thing{api.RecFire, e.Id})
				case r.Kind == api.RecWork, r.Kind == api.RecCall, r.Kind == api.RecFire && r.N == 0:
					if !here[thing{r.Kind, r.Id}] {
						t.Fatalf("seed %d, event %d: %+v is not there", seed, at, r)
					}
					delete(here, thing{r.Kind, r.Id})
					done++
				}
			}
		}
		var left int
		_, p := state(t, k)
		for _, x := range p.Timers {
			if x.Who == 0 {
				left++
			}
		}
		if left += len(p.Works) + len(p.Calls); left != len(here) {
			t.Fatalf("seed %d: %d are there, and should be %d", seed, left, len(here))
		}
	})
	if done < 1000 {
		t.Error("done", done)
	}
}

// P2 and P3: where things are done, what is on a core that has gone, and by what it is changed which cores are online.
func TestCoresGoAndCome(t *testing.T) {
	var well, failed int
	scripts(t, 60, func(seed, cpus int, l []api.Ev) {
		k, _ := kernel.New(cpus)
		var gone mask.Mask
		for at, e := range l {
			active, online := k.Active(), k.Online()
			up, cpu := k.Desk().Up(), k.Desk().Cpu()
			for _, r := range k.Do(e) {
				switch {
				case r.Kind == api.RecHot && r.Why == api.OK:
					well++
					if online = online.Less(cpu); up {
						online = online.With(cpu)
					} else {
						gone = gone.With(cpu)
					}
				case r.Kind == api.RecHot:
					failed++
					if !up && !k.Active().Has(cpu) || up && k.Active().Has(cpu) {
						t.Fatalf("seed %d, event %d: %+v, active are %x", seed, at, r, k.Active())
					}
				case r.Kind != api.RecRet && (!active.Has(r.Cpu) || e.Kind != api.EvStep || e.Cpu != r.Cpu):
					t.Fatalf("seed %d, event %d: %+v brings %+v, active are %x", seed, at, e, r, active)
				case r.Kind == api.RecRet && e.Kind == api.EvOnline && r.Why == api.OK:
					gone = gone.Less(e.Cpu)
				}
			}
			if k.Online() != online {
				t.Fatalf("seed %d, event %d: behind %+v %x are online, not %x", seed, at, e, k.Online(), online)
			}
			empty(t, k, gone)
		}
	})
	if well < 100 || failed < 50 {
		t.Error("well", well, "failed", failed)
	}
}

// empty says that on cores that have gone nothing is.
func empty(t *testing.T, k *kernel.Kernel, gone mask.Mask) {
	t.Helper()
	_, p := state(t, k)
	for _, l := range [][]audit.Place{p.Queued, p.Timers, p.Irqs, p.Works, p.Calls, p.Kept} {
		for _, x := range l {
			if gone.Has(x.Cpu) {
				t.Fatalf("%+v is on a core that has gone", x)
			}
		}
	}
	if p.Power.And(gone) != 0 {
		t.Fatalf("of %x, that have gone, %x have power", gone, p.Power)
	}
}

// P3: of each stage that fails all is as it was ahead of the request, but for where things are.
func TestFailuresAreUndone(t *testing.T) {
	for cpus := 2; cpus <= 5; cpus++ {
		for stage := range int64(api.Stages) {
			k, _ := kernel.New(cpus)
			for _, e := range []api.Ev{{Kind: api.EvSpawn, Id: 2, Mask: 2}, {Kind: api.EvArm, Cpu: 1, N: 50}, {Kind: api.EvQueue, Cpu: 1}, {Kind: api.EvCall, Cpu: 1}, {Kind: api.EvRequest, Id: 1, Mask: 2}, {Kind: api.EvAlloc, Cpu: 1}, {Kind: api.EvFail, N: stage}} {
				k.Do(e)
			}
			was, _ := state(t, k)
			k.Do(api.Ev{Kind: api.EvOffline, Cpu: 1})
			var told api.Rec
			for n := 0; told.Kind != api.RecHot && n < 400; n++ {
				// Core 0 does the request's acts; core 1 only stands still, so that nothing is done.
				for _, cpu := range []int{0, 0, 0, 0, 0, 0, 0, 0, 0, 1, 2, 3, 4} {
					if cpu != 0 && (cpu >= cpus || !k.Stop().Must(cpu)) || told.Kind == api.RecHot {
						continue
					}
					for _, r := range k.Do(api.Ev{Kind: api.EvStep, Cpu: cpu}) {
						told = r
					}
				}
			}
			now, p := state(t, k)
			if told != (api.Rec{Kind: api.RecHot, Cpu: 1, Why: api.ErrFail}) || !reflect.DeepEqual(was, now) || k.Active() != mask.Upto(cpus) || k.Gate().State() != gate.Open || p.Power != mask.Upto(cpus) {
				t.Errorf("%d cores, stage %d: %+v; it was %+v, and is %+v", cpus, stage, told, was, now)
			}
		}
	}
}

// P4: when no reader is there, and each core has its turn, nothing waits any more within 500 windows.
func TestProgress(t *testing.T) {
	scripts(t, 60, func(seed, cpus int, l []api.Ev) {
		k, _ := kernel.New(cpus)
		for at, e := range l {
			k.Do(e)
			if at%300 != 299 {
				continue
			}
			for cpu := range cpus {
				for k.Gate().On(cpu) > 0 {
					k.Do(api.Ev{Kind: api.EvDrop, Cpu: cpu})
				}
			}
			picks := make([]int, fair.Bound(cpus))
			for n := range picks {
				picks[n] = n % cpus
			}
			if many, why := fair.Drive(k, picks...); why != api.OK || !fair.Still(k) {
				t.Fatalf("seed %d, event %d: Drive = %d, %d", seed, at, many, why)
			}
		}
	})
}

// P5: what sets how cores rest, and how fast they are, changes no trace, and no tally but of answers; frequencies, and how long cores need to wake, are within what was set.
func TestPower(t *testing.T) {
	ways := idle.Table()
	var rests [4]int
	scripts(t, 60, func(seed, cpus int, l []api.Ev) {
		dice := drill.New(uint64(seed + 500))
		var full []api.Ev
		for _, e := range l {
			if e.Kind == api.EvTick {
				e.N *= int64(dice.Roll(30))
			}
			if dice.Roll(8) == 0 {
				full = append(full, api.Ev{Kind: api.EvLimit, N: int64(dice.Roll(4)*dice.Roll(30) - 1)}, api.Ev{Kind: api.EvSpeed, Id: dice.Roll(300), N: int64(dice.Roll(300))})
			}
			full = append(full, e)
		}
		with, why := replay.Trace(cpus, full...)
		without, e := replay.Trace(cpus, replay.Plain(full...)...)
		if at := replay.Differ(with, without); at != -1 || why != api.OK || e != api.OK {
			t.Fatalf("seed %d: the traces are unlike at %d", seed, at)
		}
		a, _ := tally.Of(cpus, full...)
		b, _ := tally.Of(cpus, replay.Plain(full...)...)
		if a.Things != b.Things || a.Steps != b.Steps || !reflect.DeepEqual(a.Cores, b.Cores) || a.Done != b.Done || a.Well != b.Well || a.Failed != b.Failed || a.Waited < b.Waited {
			t.Fatalf("seed %d: the tallies are %+v and %+v", seed, a, b)
		}
		within(t, cpus, full, ways, &rests)
	})
	for way, many := range rests {
		if many < 20 {
			t.Errorf("in the way %d cores rest %d times", way, many)
		}
	}
}

// within does events, and holds each frequency, and each rest, against what was set.
func within(t *testing.T, cpus int, l []api.Ev, ways []idle.State, rests *[4]int) {
	t.Helper()
	k, _ := kernel.New(cpus)
	low, high, limit := int64(100), int64(1000), int64(api.MaxDelay)
	for at, e := range l {
		was, _ := k.Cores().Get(e.Cpu)
		recs := k.Do(e)
		if len(recs) == 1 && recs[0].Why == api.OK && e.Kind == api.EvLimit {
			limit = e.N
		}
		if len(recs) == 1 && recs[0].Why == api.OK && e.Kind == api.EvSpeed {
			low, high = int64(e.Id), e.N
		}
		for cpu := range cpus {
			if f := k.Gov(cpu).Freq(); f < low || f > high {
				t.Fatalf("event %d: the frequency of core %d is %d, not from %d to %d", at, cpu, f, low, high)
			}
		}
		if now, _ := k.Cores().Get(e.Cpu); e.Kind == api.EvStep && now.Idle && !was.Idle {
			rests[now.Way]++
			if ways[now.Way].Exit > limit {
				t.Fatalf("event %d: core %d rests in the way %d, the limit is %d", at, e.Cpu, now.Way, limit)
			}
		}
	}
}
