package replay_test

import (
	"math"
	"testing"

	"davit/api"
	"davit/drill"
	"davit/kernel"
	"davit/replay"
)

// noCpus are numbers of cores of which there is no kernel.
var noCpus = []int{0, -1, -64, 65, 66, 128, 1 << 32, 1<<32 + 1, math.MinInt, math.MaxInt}

// plainTrace is the records of a kernel of the test's own, but of the events 28 and 29.
func plainTrace(t *testing.T, cpus int, l []api.Ev) []api.Rec {
	t.Helper()
	k, why := kernel.New(cpus)
	if why != api.OK {
		t.Fatalf("no kernel of %d cores: %d", cpus, why)
	}
	var recs []api.Rec
	for _, e := range l {
		for _, r := range k.Do(e) {
			if e.Kind != 28 && e.Kind != 29 {
				recs = append(recs, r)
			}
		}
	}
	return recs
}

// plainDiffer is the first place that one of two traces does not have, or at which they have two records.
func plainDiffer(a, b []api.Rec) int {
	for at := 0; ; at++ {
		switch {
		case at == len(a) && at == len(b):
			return -1
		case at >= len(a) || at >= len(b):
			return at
		case a[at].Kind != b[at].Kind || a[at].Cpu != b[at].Cpu || a[at].Id != b[at].Id || a[at].N != b[at].N || a[at].Why != b[at].Why:
			return at
		}
	}
}

// rolled is a script that there is.
func rolled(t *testing.T, cpus int, seed uint64, many int) []api.Ev {
	t.Helper()
	l, why := drill.Script(cpus, seed, many)
	if why != api.OK || len(l) != many {
		t.Fatalf("Script(%d, %d, %d): %d events, %d", cpus, seed, many, len(l), why)
	}
	return l
}

// traced is a trace that there is.
func traced(t *testing.T, cpus int, l ...api.Ev) []api.Rec {
	t.Helper()
	recs, why := replay.Trace(cpus, l...)
	if why != api.OK {
		t.Fatalf("Trace of %d cores, %d events: %d", cpus, len(l), why)
	}
	return recs
}

// steps is steps of so many cores, one after the other, so many times.
func steps(cpus, times int) []api.Ev {
	var l []api.Ev
	for range times {
		for cpu := range cpus {
			l = append(l, api.Ev{Kind: api.EvStep, Cpu: cpu})
		}
	}
	return l
}

// set is events that set, of all kinds: some of them are refused.
var set = []api.Ev{
	{Kind: api.EvLimit}, {Kind: api.EvLimit, N: 2}, {Kind: api.EvLimit, N: 10}, {Kind: api.EvLimit, N: 49}, {Kind: api.EvLimit, N: 50}, {Kind: api.EvLimit, N: api.MaxDelay}, {Kind: api.EvLimit, N: api.MaxDelay + 1}, {Kind: api.EvLimit, N: -1}, {Kind: api.EvLimit, N: math.MinInt64},
	{Kind: api.EvSpeed, Id: 1, N: 1}, {Kind: api.EvSpeed, Id: 1, N: 100000}, {Kind: api.EvSpeed, Id: 100000, N: 100000}, {Kind: api.EvSpeed, Id: 5, N: 4}, {Kind: api.EvSpeed, N: 5}, {Kind: api.EvSpeed, Id: 1, N: 100001}, {Kind: api.EvSpeed, Id: -1, N: math.MaxInt64}, {Kind: api.EvSpeed, Id: 200, N: 300, Cpu: 99, Mask: 7},
}

// between is events with some that set at each third place or so, ahead of all, and behind all.
func between(roll *drill.Dice, l []api.Ev) []api.Ev {
	out := []api.Ev{set[roll.Roll(len(set))]}
	for _, e := range l {
		out = append(out, e)
		for roll.Roll(3) == 0 {
			out = append(out, set[roll.Roll(len(set))])
		}
	}
	return append(out, set[roll.Roll(len(set))])
}
