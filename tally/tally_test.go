package tally_test

import (
	"slices"
	"testing"

	"davit/api"
	"davit/drill"
	"davit/kernel"
	"davit/tally"
)

// steps is so many steps of each of some cores, in turn.
func steps(each int, cpus ...int) []api.Ev {
	var l []api.Ev
	for range each {
		for _, cpu := range cpus {
			l = append(l, api.Ev{Kind: api.EvStep, Cpu: cpu})
		}
	}
	return l
}

// and is lists of events, one behind the other.
func and(lists ...[]api.Ev) []api.Ev {
	return slices.Concat(lists...)
}

// one is a list of events.
func one(l ...api.Ev) []api.Ev {
	return l
}

var (
	work0, work1, workAny = api.Ev{Kind: api.EvQueue}, api.Ev{Kind: api.EvQueue, Cpu: 1}, api.Ev{Kind: api.EvQueue, Cpu: -1}
	call0, call1          = api.Ev{Kind: api.EvCall}, api.Ev{Kind: api.EvCall, Cpu: 1}
	step0, step1          = api.Ev{Kind: api.EvStep}, api.Ev{Kind: api.EvStep, Cpu: 1}
	tick                  = api.Ev{Kind: api.EvTick, N: 1}
)

// P40.1: tallies that are written out.
func TestOf(t *testing.T) {
	ticks := slices.Repeat(one(tick), 50)
	for n, c := range []struct {
		cpus int
		l    []api.Ev
		want tally.Tally
	}{
		{1, nil, tally.Tally{Cores: make([]int64, 1)}}, {64, one(), tally.Tally{Cores: make([]int64, 64)}},
		// Steps, be there such a core or not.
		{1, one(step0), tally.Tally{Steps: 1, Cores: []int64{0}}}, {1, one(step0, step1, step0), tally.Tally{Steps: 3, Errors: 1, Cores: []int64{0}}}, {2, one(api.Ev{Kind: api.EvStep, Cpu: -1}, api.Ev{Kind: api.EvStep, Cpu: 64}), tally.Tally{Steps: 2, Errors: 2, Cores: []int64{0, 0}}},
		// Answers with an error, and without one.
		{2, one(tick, api.Ev{}, api.Ev{Kind: 31}, api.Ev{Kind: api.EvTick, N: -1}, api.Ev{Kind: api.EvExit, Id: 1}, api.Ev{Kind: api.EvQueue, Cpu: 2}, api.Ev{Kind: api.EvCall, Cpu: -1}, tick), tally.Tally{Errors: 6, Cores: []int64{0, 0}}},
		// Example 1.
		{2, one(work0, step0), tally.Tally{Steps: 1, Things: [5]int64{0, 0, 0, 1}, Cores: []int64{1, 0}, Done: 1, Waited: 1, Most: 1}},
		// A thing of each kind, each on its core.
		{2, one(api.Ev{Kind: api.EvSpawn, Mask: 2}, step1), tally.Tally{Steps: 1, Things: [5]int64{1}, Cores: []int64{0, 1}}},
		{2, one(api.Ev{Kind: api.EvArm, Cpu: 1, N: 1}, tick, step1), tally.Tally{Steps: 1, Things: [5]int64{0, 1}, Cores: []int64{0, 1}}},
		{2, one(api.Ev{Kind: api.EvRequest, Id: 2, Mask: 2}, api.Ev{Kind: api.EvRaise, Id: 2}, step1), tally.Tally{Steps: 1, Things: [5]int64{0, 0, 1}, Cores: []int64{0, 1}}},
		{2, one(call1, step1), tally.Tally{Steps: 1, Things: [5]int64{0, 0, 0, 0, 1}, Cores: []int64{0, 1}, Done: 1, Waited: 1, Most: 1}},
		// Works and calls that wait over many events; also those that change nothing, or are refused, count.
		{2, and(one(work0), ticks, one(step1, api.Ev{}, step0)), tally.Tally{Steps: 2, Errors: 1, Things: [5]int64{0, 0, 0, 1}, Cores: []int64{1, 0}, Done: 1, Waited: 53, Most: 53}},
		{2, and(one(call1), ticks, one(work0, step0), ticks, one(step1)), tally.Tally{Steps: 2, Things: [5]int64{0, 0, 0, 1, 1}, Cores: []int64{1, 1}, Done: 2, Waited: 104, Most: 103}},
		{2, and(one(work1, work0), one(step0), ticks, one(step1)), tally.Tally{Steps: 2, Things: [5]int64{0, 0, 0, 2}, Cores: []int64{1, 1}, Done: 2, Waited: 54, Most: 53}},
		// A work and a call of one number are two.
		{2, one(work0, call0, tick, step0, step0), tally.Tally{Steps: 2, Things: [5]int64{0, 0, 0, 1, 1}, Cores: []int64{2, 0}, Done: 2, Waited: 6, Most: 4}},
		{2, one(call0, work1, step0, step1), tally.Tally{Steps: 2, Things: [5]int64{0, 0, 0, 1, 1}, Cores: []int64{1, 1}, Done: 2, Waited: 4, Most: 2}},
		// Numbers that are given again, to another kind of thing, and to the same one.
		{2, one(work0, step0, tick, tick, call0, step0, tick, work0, tick, step0), tally.Tally{Steps: 3, Things: [5]int64{0, 0, 0, 2, 1}, Cores: []int64{3, 0}, Done: 3, Waited: 4, Most: 2}},
		{2, one(work0, work1, tick, step0, work0, step1, work1, step0, step1), tally.Tally{Steps: 4, Things: [5]int64{0, 0, 0, 4}, Cores: []int64{2, 2}, Done: 4, Waited: 12, Most: 4}},
		{2, one(call0, call0, step0, call0, tick, step0, step0), tally.Tally{Steps: 3, Things: [5]int64{0, 0, 0, 0, 3}, Cores: []int64{3, 0}, Done: 3, Waited: 9, Most: 4}},
		// Those that are never done count in nothing.
		{2, one(work0, work1, call1, call0, tick), tally.Tally{Cores: []int64{0, 0}}}, {2, and(one(work1, work0, call1, call0), steps(2, 0)), tally.Tally{Steps: 2, Things: [5]int64{0, 0, 0, 1, 1}, Cores: []int64{2, 0}, Done: 2, Waited: 5, Most: 4}},
		// A work for any core; asking whether one is queued answers 1, too, which is no number of one.
		{2, one(workAny, api.Ev{Kind: api.EvFlush, Id: 1}, step1, api.Ev{Kind: api.EvFlush, Id: 1}), tally.Tally{Steps: 1, Things: [5]int64{0, 0, 0, 1}, Cores: []int64{0, 1}, Done: 1, Waited: 2, Most: 2}},
		{2, one(work0, call0, api.Ev{Kind: api.EvSpawn, Mask: 1}, api.Ev{Kind: api.EvArm}, api.Ev{Kind: api.EvAlloc}, api.Ev{Kind: api.EvBalance}, api.Ev{Kind: api.EvWhere, Id: 1}, step0, step0, step0), tally.Tally{Steps: 3, Things: [5]int64{0, 1, 0, 1, 1}, Cores: []int64{3, 0}, Done: 2, Waited: 6 + 9, Most: 9}},
	} {
		was := slices.Clone(c.l)
		got, why := tally.Of(c.cpus, c.l...)
		if why != api.OK || !same(got, c.want) {
			t.Errorf("%d: Of(%d, %v) = %+v, %d, want %+v", n, c.cpus, c.l, got, why, c.want)
		}
		if p := plain(t, c.cpus, c.l); !same(p, c.want) {
			t.Errorf("%d: the plain tally is %+v", n, p)
		}
		if !slices.Equal(c.l, was) {
			t.Errorf("%d: Of changed %v to %v", n, was, c.l)
		}
	}
}

// P40.1: works and calls that wait while their core goes: they are done on another one, and have waited since they were answered.
func TestWaitsWhileACoreGoes(t *testing.T) {
	l := and(one(work1, call1, api.Ev{Kind: api.EvOffline, Cpu: 1}), steps(12, 0), steps(30, 1, 0))
	got := of(t, 2, l...)
	if got.Done != 2 || got.Cores[0] != 2 || got.Cores[1] != 0 || got.Well != 1 || got.Failed != 0 || got.Most < 10 || !same(got, plain(t, 2, l)) {
		t.Errorf("Of = %+v", got)
	}
}

// P40.1: requests that go well, and that fail, at each stage; those that are refused are answers with an error.
func TestRequests(t *testing.T) {
	off, on := api.Ev{Kind: api.EvOffline, Cpu: 1}, api.Ev{Kind: api.EvOnline, Cpu: 1}
	run := steps(30, 0, 1)
	for n, c := range []struct {
		l                    []api.Ev
		well, failed, errors int64
	}{
		{and(one(off), run), 1, 0, 0}, {and(one(off), run, one(on), run), 2, 0, 0}, {one(off), 0, 0, 0}, {one(off, off, on), 0, 0, 2}, {one(on), 0, 0, 1}, {and(one(off), run, one(off)), 1, 0, 1},
		{and(one(off), run, one(api.Ev{Kind: api.EvFail, N: 1}, on), run, one(on), run), 2, 1, 0}, {and(one(api.Ev{Kind: api.EvFail, N: 10}, off), run), 1, 0, 1},
		{and(one(off), run, one(on), run, one(off), run, one(on), run, one(off), run), 5, 0, 0},
	} {
		got := of(t, 2, c.l...)
		if got.Well != c.well || got.Failed != c.failed || got.Errors != c.errors || got.Things != [5]int64{} || !same(got, plain(t, 2, c.l)) {
			t.Errorf("%d: Of = %+v, want %d, %d, %d", n, got, c.well, c.failed, c.errors)
		}
	}
	for stage := range int64(10) {
		got := of(t, 2, and(one(api.Ev{Kind: api.EvFail, N: stage}, off), run, one(off), run)...)
		if got.Well != 1 || got.Failed != 1 || got.Errors != 0 {
			t.Errorf("the stage %d fails: Of = %+v", stage, got)
		}
	}
}

// P40.1: of no kernel there is nothing, whatever the events are.
func TestOfNoKernel(t *testing.T) {
	for _, cpus := range noCpus {
		for _, l := range [][]api.Ev{nil, one(step0), one(work0, step0, api.Ev{}), one(api.Ev{Kind: -1})} {
			got, why := tally.Of(cpus, l...)
			if why != api.ErrArg || !same(got, tally.Tally{}) {
				t.Errorf("Of(%d, %v) = %+v, %d", cpus, l, got, why)
			}
		}
	}
	for cpus := 1; cpus <= 64; cpus++ {
		last, behind := api.Ev{Kind: api.EvCall, Cpu: cpus - 1}, api.Ev{Kind: api.EvCall, Cpu: cpus}
		got := of(t, cpus, last, behind, api.Ev{Kind: api.EvStep, Cpu: cpus - 1})
		want := make([]int64, cpus)
		want[cpus-1] = 1
		if !same(got, tally.Tally{Steps: 1, Errors: 1, Things: [5]int64{4: 1}, Cores: want, Done: 1, Waited: 2, Most: 2}) {
			t.Errorf("Of(%d, ..) = %+v", cpus, got)
		}
	}
}

// P40.1, P40.3, P40.4: rolled scripts and busy ones of 1 to 64 cores, against plain tallies.
func TestRolledScripts(t *testing.T) {
	var sum tally.Tally
	for seed := range uint64(300) {
		cpus := 1 + int(seed)%6
		if seed%7 == 0 {
			cpus = 1 + int(seed)%64
		}
		l, why := drill.Script(cpus, seed, 600)
		if why != api.OK {
			t.Fatal("Script", why)
		}
		if seed%2 == 0 {
			l = busy(drill.New(seed), cpus, 900)
		}
		got, want := of(t, cpus, l...), plain(t, cpus, l)
		if !same(got, want) {
			t.Fatalf("seed %d: Of(%d, ..) = %+v, want %+v", seed, cpus, got, want)
		}
		hold(t, cpus, l, got)
		for n := range sum.Things {
			sum.Things[n] += got.Things[n]
		}
		sum.Well, sum.Failed, sum.Errors, sum.Most = sum.Well+got.Well, sum.Failed+got.Failed, sum.Errors+got.Errors, max(sum.Most, got.Most)
	}
	if slices.Min(sum.Things[:]) < 100 || sum.Well < 100 || sum.Failed < 100 || sum.Errors < 1000 || sum.Most < 300 {
		t.Errorf("all together: %+v", sum)
	}
}

// hold holds a tally against what follows, and what a kernel counts itself.
func hold(t *testing.T, cpus int, l []api.Ev, got tally.Tally) {
	t.Helper()
	var things, cores int64
	for _, n := range got.Things {
		things += n
	}
	for _, n := range got.Cores {
		cores += n
	}
	k, _ := kernel.New(cpus)
	for _, e := range l {
		k.Do(e)
	}
	if sum, why := k.Counts().Sum(); things != cores || things != sum || why != api.OK {
		t.Errorf("things %d, cores %d, a kernel counts %d, %d", things, cores, sum, why)
	}
	if got.Done > 0 && got.Mean() > float64(got.Most) || got.Done > 0 && got.Mean() < 1 || got.Done != got.Things[3]+got.Things[4] {
		t.Errorf("Mean %g, of %+v", got.Mean(), got)
	}
	for kind := api.RecRun; kind <= api.RecCall && things > 0; kind++ {
		if part := got.Part(kind); !(part >= 0 && part <= 1) {
			t.Errorf("Part(%d) = %g, of %+v", kind, part, got)
		}
	}
}

// More events than a script may have have a tally, too.
func TestLongTally(t *testing.T) {
	got := of(t, 2, and(one(work1), slices.Repeat(one(call0, step0), 20000), one(step1))...)
	if !same(got, tally.Tally{Steps: 20001, Things: [5]int64{3: 1, 4: 20000}, Cores: []int64{20000, 1}, Done: 20001, Waited: 60001, Most: 40001}) {
		t.Errorf("Of = %+v", got)
	}
}

// What is written into an answer, or appended to it, or into what was handed in, is in no other one.
func TestAnswersAreTheCallers(t *testing.T) {
	l := one(work0, call1, step0, step1, step0)
	got, again := of(t, 2, l...), of(t, 2, l...)
	clear(got.Cores)
	_ = append(got.Cores[:1], 77)
	clear(l)
	if !slices.Equal(again.Cores, []int64{1, 1}) {
		t.Errorf("what was written is seen: %+v", again)
	}
}
