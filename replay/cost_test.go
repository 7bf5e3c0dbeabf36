package replay_test

import (
	"math"
	"slices"
	"testing"

	"davit/api"
	"davit/drill"
	"davit/kernel"
	"davit/replay"
)

// costs says what each core's energy is behind events.
func costs(t *testing.T, name string, l []api.Ev, want ...int64) {
	t.Helper()
	was := slices.Clone(l)
	for cpu, energy := range want {
		if got, why := replay.Cost(len(want), cpu, l...); got != energy || why != api.OK {
			t.Errorf("%s: Cost(%d, %d, ..) = %d, %d, want %d", name, len(want), cpu, got, why, energy)
		}
	}
	if !slices.Equal(l, was) {
		t.Errorf("%s: Cost changed the events", name)
	}
}

// P38.2: costs that are reckoned by hand.
func TestCosts(t *testing.T) {
	tick, step := api.Ev{Kind: api.EvTick, N: 10}, api.Ev{Kind: api.EvStep}
	spawn := api.Ev{Kind: api.EvSpawn, Id: 1, Mask: 1}
	limit := func(n int64) api.Ev { return api.Ev{Kind: api.EvLimit, N: n} }
	speed := func(low int, high int64) api.Ev { return api.Ev{Kind: api.EvSpeed, Id: low, N: high} }
	costs(t, "no events", nil, 0)
	costs(t, "no events", []api.Ev{}, 0, 0, 0)
	costs(t, "no ticks", []api.Ev{spawn, step, step, {Kind: api.EvTick}, {Kind: api.EvTick, N: -1}, {Kind: api.EvTick, N: api.MaxDelay + 1}}, 0, 0)
	// Without steps a core is as slow as it may be.
	costs(t, "one tick", []api.Ev{{Kind: api.EvTick, N: 1}}, 100)
	costs(t, "ticks", []api.Ev{tick, {Kind: api.EvTick, N: 7}}, 1700, 1700)
	costs(t, "the longest tick", []api.Ev{{Kind: api.EvTick, N: api.MaxDelay}}, 100<<30)
	// A core that is always busy is as fast as it may be; one that begins to rest rests as deeply as it may.
	costs(t, "busy", []api.Ev{spawn, step, tick}, 10000, 1000)
	// It runs, rests, wakes, works and rests: 3 of 5 were busy; and it wakes: 4 of 6, that is 66 of 100.
	rests := []api.Ev{spawn, step, {Kind: api.EvExit, Id: 1}, step, {Kind: api.EvQueue}, step, step, step, tick}
	costs(t, "partly busy, and resting", rests, 50)
	costs(t, "partly busy, and awake", append(rests, api.Ev{Kind: api.EvQueue}, step, tick), 50+6940)
	costs(t, "resting", []api.Ev{step, tick}, 50, 1000)
	for n, power := range map[int64]int64{0: 100, 1: 100, 2: 60, 9: 60, 10: 25, 49: 25, 50: 5, api.MaxDelay: 5} {
		costs(t, "resting within a limit", []api.Ev{limit(n), step, tick}, 10*power)
		costs(t, "resting already", []api.Ev{step, limit(n), tick}, 50)
	}
	costs(t, "a limit that is refused", []api.Ev{limit(-1), limit(api.MaxDelay + 1), step, tick}, 50)
	for n, power := range map[int64]int64{1: 100, 9: 100, 10: 60, 49: 60, 50: 25, 399: 25, 400: 5} {
		costs(t, "resting till a timer", []api.Ev{{Kind: api.EvArm, Cpu: 1, N: 15}, tick, {Kind: api.EvArm, N: n}, step, tick}, 1000+10*power, 2000)
	}
	costs(t, "a timer that is due", []api.Ev{{Kind: api.EvArm}, step, tick}, 10000)
	costs(t, "frequencies", []api.Ev{speed(7, 9), tick, spawn, step, tick}, 70+90, 70+70)
	costs(t, "frequencies that are refused", []api.Ev{speed(0, 9), speed(9, 8), speed(1, 100001), tick}, 1000)
	costs(t, "a frequency behind the ticks", []api.Ev{tick, speed(5, 5)}, 1000)
	// What can not be done costs nothing.
	costs(t, "events that are refused", []api.Ev{{}, {Kind: 31}, {Kind: api.EvStep, Cpu: 1}, {Kind: api.EvOffline}}, 0)
}

// P38.2: a core that has no power costs nothing; when it comes it is awake.
func TestCostOfPower(t *testing.T) {
	tick := api.Ev{Kind: api.EvTick, N: 10}
	l := append([]api.Ev{{Kind: api.EvSpeed, Id: 3, N: 3}, tick, {Kind: api.EvOffline, Cpu: 1}}, steps(2, 30)...)
	costs(t, "gone", l, 30, 30)
	l = append(l, tick, tick)
	costs(t, "gone for a while", l, 30+100, 30)
	l = append(append(l, api.Ev{Kind: api.EvOnline, Cpu: 1}), slices.Repeat([]api.Ev{{Kind: api.EvStep}}, 20)...)
	l = append(l, tick)
	costs(t, "come", l, 130+50, 30+30)
	l = append(append(l, api.Ev{Kind: api.EvStep, Cpu: 1}), tick)
	costs(t, "come, and resting", l, 180+50, 60+50)
}

// P38.2: what would be more than a core's greatest energy is not added, and what is not is.
func TestGreatestCost(t *testing.T) {
	const each = 100000 << 30
	const fit = 1 << 62 / each
	l := append([]api.Ev{{Kind: api.EvSpeed, Id: 100000, N: 100000}}, slices.Repeat([]api.Ev{{Kind: api.EvTick, N: api.MaxDelay}}, fit-1)...)
	costs(t, "nearly all", l, (fit-1)*each)
	l = append(l, api.Ev{Kind: api.EvTick, N: api.MaxDelay})
	costs(t, "all", l, fit*each)
	l = append(l, api.Ev{Kind: api.EvTick, N: api.MaxDelay}, api.Ev{Kind: api.EvTick, N: api.MaxDelay})
	costs(t, "more", l, fit*each)
	l = append(l, api.Ev{Kind: api.EvTick, N: 5})
	costs(t, "a little more", l, fit*each+500000)
}

// P38.2: the errors: that of the kernel ahead of that of the core.
func TestNoCost(t *testing.T) {
	noCores := []int{-1, -2, -64, math.MinInt, 64, 65, 1 << 32, math.MaxInt}
	lists := [][]api.Ev{nil, {{Kind: api.EvTick, N: 5}}, {{}}, set}
	refuses := func(cpus, cpu int, want api.Errno) {
		t.Helper()
		for _, l := range lists {
			if got, why := replay.Cost(cpus, cpu, l...); got != 0 || why != want {
				t.Errorf("Cost(%d, %d, %v) = %d, %d, want %d", cpus, cpu, l, got, why, want)
			}
		}
	}
	for _, cpus := range noCpus {
		for _, cpu := range append([]int{0, 1, 63}, noCores...) {
			refuses(cpus, cpu, api.ErrArg)
		}
	}
	for cpus := 1; cpus <= 64; cpus++ {
		for _, cpu := range append([]int{cpus, cpus + 1, cpus + 1<<32}, noCores...) {
			refuses(cpus, cpu, api.ErrRange)
		}
		for _, cpu := range []int{0, cpus - 1} {
			if got, why := replay.Cost(cpus, cpu, lists[1]...); got != 500 || why != api.OK {
				t.Errorf("Cost(%d, %d, ..) = %d, %d", cpus, cpu, got, why)
			}
		}
	}
}

// P38.2: rolled scripts, against a kernel of the test's own; what sets changes no trace, but what it costs.
func TestCostsOfRolledScripts(t *testing.T) {
	other := 0
	for seed := range uint64(40) {
		cpus := 1 + int(seed)%5
		l := rolled(t, cpus, seed, 600)
		for _, some := range [][]api.Ev{l, between(drill.New(seed), l)} {
			k, _ := kernel.New(cpus)
			for _, e := range some {
				k.Do(e)
			}
			for cpu := range cpus {
				got, why := replay.Cost(cpus, cpu, some...)
				if got != k.Meter().Energy(cpu) || why != api.OK {
					t.Errorf("seed %d: Cost(%d, %d, ..) = %d, %d, want %d", seed, cpus, cpu, got, why, k.Meter().Energy(cpu))
				}
				if plain, _ := replay.Cost(cpus, cpu, replay.Plain(some...)...); plain != got {
					other++
				}
			}
		}
	}
	if other < 50 {
		t.Error("what sets changes a cost", other, "times")
	}
}
