package replay_test

import (
	"math"
	"slices"
	"testing"

	"davit/api"
	"davit/drill"
	"davit/replay"
)

// P38.1: events with and without those that set.
func TestPlain(t *testing.T) {
	step, tick, limit, speed := api.Ev{Kind: 1, Cpu: 3}, api.Ev{Kind: 2, N: 5}, api.Ev{Kind: 28, N: 5}, api.Ev{Kind: 29, Id: 5, N: 6}
	for n, c := range []struct{ l, want []api.Ev }{
		{nil, nil},
		{[]api.Ev{}, nil},
		{[]api.Ev{step}, []api.Ev{step}},
		{[]api.Ev{limit}, nil},
		{[]api.Ev{speed}, nil},
		{[]api.Ev{limit, speed, speed, limit, limit}, nil},
		{[]api.Ev{step, tick, step}, []api.Ev{step, tick, step}},
		{[]api.Ev{limit, step, tick}, []api.Ev{step, tick}},
		{[]api.Ev{step, tick, speed}, []api.Ev{step, tick}},
		{[]api.Ev{step, limit, tick, tick, speed, limit, step, step}, []api.Ev{step, tick, tick, step, step}},
	} {
		was := slices.Clone(c.l)
		if got := replay.Plain(c.l...); !slices.Equal(got, c.want) {
			t.Errorf("%d: Plain(%v) = %v, want %v", n, c.l, got, c.want)
		}
		if !slices.Equal(c.l, was) {
			t.Errorf("%d: Plain changed %v to %v", n, was, c.l)
		}
	}
}

// P38.1: of each kind, and of those that are none: the kinds 28 and 29 alone set, whatever else is in an event.
func TestPlainOfEachKind(t *testing.T) {
	kinds := []int{math.MinInt, -28, -29, -1, 28 + 1<<32, 29 + 1<<32, 28 + 256, 29 - 256, 28 << 8, math.MaxInt}
	for kind := range 64 {
		kinds = append(kinds, kind)
	}
	for _, kind := range kinds {
		for _, e := range []api.Ev{{Kind: kind}, {Kind: kind, Cpu: 28, Id: 29, Mask: 28, N: 29}, {Kind: kind, Cpu: -1, Id: -1, Mask: math.MaxUint64, N: -1}} {
			got := replay.Plain(e, e)
			if kind == 28 || kind == 29 {
				if len(got) != 0 {
					t.Errorf("Plain of %+v = %v", e, got)
				}
			} else if !slices.Equal(got, []api.Ev{e, e}) {
				t.Errorf("Plain of %+v = %v", e, got)
			}
		}
	}
}

// P38.1: long lists: Plain leaves the events in order, and Plain of Plain is it.
func TestPlainOfMany(t *testing.T) {
	for seed := range uint64(20) {
		l := rolled(t, 4, seed, 600)
		var want []api.Ev
		for _, e := range l {
			if e.Kind != 28 && e.Kind != 29 {
				want = append(want, e)
			}
		}
		full := between(drill.New(seed), l)
		if len(want) == len(l) || len(full) < 700 {
			t.Errorf("seed %d: none of %d, %d events sets", seed, len(l), len(full))
		}
		for _, some := range [][]api.Ev{l, full, want} {
			if got := replay.Plain(some...); !slices.Equal(got, want) {
				t.Errorf("seed %d: Plain of %d events has %d, want %d", seed, len(some), len(got), len(want))
			}
		}
	}
}

// ret is an answer.
func ret(id int, why api.Errno) api.Rec {
	return api.Rec{Kind: api.RecRet, Id: id, Why: why}
}

// P38.1: traces that are written out: none, one event, one that is refused, and events that set between others.
func TestTraces(t *testing.T) {
	ok := ret(0, api.OK)
	spawn, step := api.Ev{Kind: api.EvSpawn, Id: 3, Mask: 3}, api.Ev{Kind: api.EvStep, Cpu: 1}
	ran := api.Rec{Kind: api.RecRun, Cpu: 1, Id: 1}
	for n, c := range []struct {
		cpus int
		l    []api.Ev
		want []api.Rec
	}{
		{1, nil, nil}, {2, []api.Ev{}, nil}, {64, nil, nil},
		// One event.
		{1, []api.Ev{{Kind: api.EvStep}}, nil}, {64, []api.Ev{{Kind: api.EvStep, Cpu: 63}}, nil},
		{2, []api.Ev{spawn}, []api.Rec{ret(1, api.OK)}}, {1, []api.Ev{{Kind: api.EvTick, N: 5}}, []api.Rec{ok}},
		// One that is refused.
		{1, []api.Ev{spawn}, []api.Rec{ret(0, api.ErrArg)}}, {1, []api.Ev{step}, []api.Rec{ret(0, api.ErrRange)}}, {1, []api.Ev{{Kind: api.EvStep, Cpu: -1}}, []api.Rec{ret(0, api.ErrRange)}}, {2, []api.Ev{{}}, []api.Rec{ret(0, api.ErrArg)}}, {2, []api.Ev{{Kind: 31}}, []api.Rec{ret(0, api.ErrArg)}},
		{2, []api.Ev{{Kind: api.EvTick, N: -1}}, []api.Rec{ret(0, api.ErrArg)}}, {1, []api.Ev{{Kind: api.EvOffline}}, []api.Rec{ret(0, api.ErrLast)}}, {3, []api.Ev{{Kind: api.EvExit, Id: 1}}, []api.Rec{ret(0, api.ErrNone)}}, {3, []api.Ev{{Kind: api.EvDrop, Cpu: 2}}, []api.Rec{ret(0, api.ErrEmpty)}},
		// Events that set, alone: done, and refused.
		{2, []api.Ev{{Kind: api.EvLimit}}, nil}, {2, []api.Ev{{Kind: api.EvLimit, N: -1}}, nil}, {2, []api.Ev{{Kind: api.EvSpeed, Id: 5, N: 5}}, nil}, {2, []api.Ev{{Kind: api.EvSpeed}}, nil}, {1, set, nil},
		// And between others.
		{2, []api.Ev{{Kind: api.EvLimit}, spawn, {Kind: api.EvSpeed}, step}, []api.Rec{ret(1, api.OK), ran}},
		{2, []api.Ev{spawn, {Kind: api.EvLimit, N: 5}, {Kind: api.EvSpeed, Id: 7, N: 8}, step, step, {Kind: api.EvLimit, N: -5}, {Kind: api.EvTick, N: -1}, {Kind: api.EvSpeed}}, []api.Rec{ret(1, api.OK), ran, ran, ret(0, api.ErrArg)}},
		// An answer that is not to an event that sets, though it is like one.
		{2, []api.Ev{{Kind: api.EvTick}, {Kind: api.EvLimit}, {Kind: api.EvFail}, {Kind: api.EvHold}, {Kind: api.EvBalance}}, []api.Rec{ok, ok, ok, ok}},
		{2, []api.Ev{{Kind: api.EvArm, Cpu: 1, N: 5}, {Kind: api.EvLimit}, {Kind: api.EvTick, N: 10}, step, step}, []api.Rec{ret(1, api.OK), ok, {Kind: api.RecFire, Cpu: 1, Id: 1}}},
	} {
		was := slices.Clone(c.l)
		got, why := replay.Trace(c.cpus, c.l...)
		if why != api.OK || !slices.Equal(got, c.want) || replay.Differ(got, c.want) != -1 {
			t.Errorf("%d: Trace(%d, %v) = %v, %d, want %v", n, c.cpus, c.l, got, why, c.want)
		}
		if !slices.Equal(c.l, was) {
			t.Errorf("%d: Trace changed %v to %v", n, was, c.l)
		}
	}
}

// comesAndGoes is a script of three cores in which the power of core 2 goes, its going having failed once, and comes, and goes again.
func comesAndGoes() []api.Ev {
	l := []api.Ev{{Kind: api.EvSpawn, Id: 1, Mask: 4}, {Kind: api.EvArm, Cpu: 2, N: 3}, {Kind: api.EvQueue, Cpu: 2}, {Kind: api.EvCall, Cpu: 2}}
	l = append(append(l, api.Ev{Kind: api.EvFail, N: 9}, api.Ev{Kind: api.EvOffline, Cpu: 2}), steps(3, 30)...)
	l = append(append(l, api.Ev{Kind: api.EvTick, N: 5}, api.Ev{Kind: api.EvOffline, Cpu: 2}), steps(3, 30)...)
	l = append(append(l, api.Ev{Kind: api.EvTick, N: 5}, api.Ev{Kind: api.EvOnline, Cpu: 2}), steps(3, 30)...)
	return append(append(l, api.Ev{Kind: api.EvTick, N: 5}, api.Ev{Kind: api.EvOffline, Cpu: 2}), steps(3, 30)...)
}

// P38.1, P38.3: a script in which power comes and goes, with events that set at any place of it.
func TestTraceOfPower(t *testing.T) {
	l := comesAndGoes()
	want := plainTrace(t, 3, l)
	var ends []api.Errno
	for _, r := range want {
		if r.Kind == api.RecHot {
			ends = append(ends, r.Why)
		}
	}
	if !slices.Equal(ends, []api.Errno{api.ErrFail, api.OK, api.OK, api.OK}) {
		t.Fatalf("the requests end with %v", ends)
	}
	if got := traced(t, 3, l...); !slices.Equal(got, want) {
		t.Errorf("Trace = %v, want %v", got, want)
	}
	for at := range len(l) + 1 {
		for _, e := range set {
			if got := traced(t, 3, slices.Insert(slices.Clone(l), at, e)...); replay.Differ(got, want) != -1 {
				t.Fatalf("with %+v at %d the trace is unlike at %d", e, at, replay.Differ(got, want))
			}
		}
	}
}

// P38.1: of no kernel there is no trace, whatever the events are.
func TestTraceOfNoKernel(t *testing.T) {
	for _, cpus := range noCpus {
		for _, l := range [][]api.Ev{nil, {{Kind: api.EvStep}}, {{}}, set} {
			if got, why := replay.Trace(cpus, l...); len(got) != 0 || why != api.ErrArg {
				t.Errorf("Trace(%d, %v) = %v, %d", cpus, l, got, why)
			}
		}
	}
	for cpus := 1; cpus <= 64; cpus++ {
		if got := traced(t, cpus); len(got) != 0 {
			t.Errorf("Trace(%d) = %v", cpus, got)
		}
		if got := traced(t, cpus, api.Ev{Kind: api.EvHold, Cpu: cpus - 1}, api.Ev{Kind: api.EvHold, Cpu: cpus}); !slices.Equal(got, []api.Rec{ret(0, api.OK), ret(0, api.ErrRange)}) {
			t.Errorf("Trace(%d, ..) = %v", cpus, got)
		}
	}
}

// P38.3: what sets changes no trace. P38.4: two traces of the same events are alike. With rolled scripts, and more of what sets between their events.
func TestTracesOfRolledScripts(t *testing.T) {
	kinds := [8]int{}
	for seed := range uint64(160) {
		cpus := 1 + int(seed)%6
		if seed%10 == 0 {
			cpus = 1 + int(seed)%64
		}
		l := rolled(t, cpus, seed, 600)
		want := plainTrace(t, cpus, l)
		for name, some := range map[string][]api.Ev{"the events": l, "the plain ones": replay.Plain(l...), "with more that set": between(drill.New(seed), l), "plain, with others that set": between(drill.New(seed+1000), replay.Plain(l...))} {
			for range 2 {
				got := traced(t, cpus, some...)
				if at := replay.Differ(got, want); at != -1 || plainDiffer(got, want) != -1 {
					t.Fatalf("seed %d, %d cores: the trace of %s is unlike at %d", seed, cpus, name, at)
				}
			}
		}
		for _, r := range want {
			kinds[r.Kind]++
		}
	}
	for kind := api.RecRet; kind <= api.RecHot; kind++ {
		if kinds[kind] < 30 {
			t.Errorf("of the record %d there were %d", kind, kinds[kind])
		}
	}
}

// More events than a script may have have a trace, too.
func TestLongTrace(t *testing.T) {
	l := slices.Repeat([]api.Ev{{Kind: api.EvTick}, {Kind: api.EvLimit}}, 3000)
	if got := traced(t, 2, l...); !slices.Equal(got, slices.Repeat([]api.Rec{ret(0, api.OK)}, 3000)) {
		t.Errorf("there are %d records", len(got))
	}
}

// P38.1: places at which traces are unlike.
func TestDiffer(t *testing.T) {
	a, b, c := api.Rec{Kind: 1, Cpu: 2, Id: 3, N: 4, Why: 5}, api.Rec{Kind: 2}, api.Rec{}
	for n, x := range []struct {
		a, b []api.Rec
		want int
	}{
		{nil, nil, -1}, {nil, []api.Rec{}, -1}, {[]api.Rec{}, []api.Rec{}, -1},
		{nil, []api.Rec{a}, 0}, {nil, []api.Rec{c}, 0}, {[]api.Rec{}, []api.Rec{c, a}, 0},
		{[]api.Rec{a}, []api.Rec{a}, -1}, {[]api.Rec{c}, []api.Rec{c}, -1}, {[]api.Rec{a, b, c}, []api.Rec{a, b, c}, -1},
		// Example 1.
		{[]api.Rec{a, b}, []api.Rec{a}, 1}, {[]api.Rec{a, b, c}, []api.Rec{a}, 1},
		{[]api.Rec{a, c}, []api.Rec{a}, 1}, {[]api.Rec{a, b, c}, []api.Rec{a, b}, 2}, {[]api.Rec{c, c, c}, []api.Rec{c}, 1},
		{[]api.Rec{a}, []api.Rec{b}, 0}, {[]api.Rec{a, b}, []api.Rec{b, b}, 0}, {[]api.Rec{a, b}, []api.Rec{b, a}, 0}, {[]api.Rec{a, b, c}, []api.Rec{a, c, c}, 1}, {[]api.Rec{a, b, c}, []api.Rec{a, b, a}, 2},
		// Unlike at two places, or in length, too: the first one counts.
		{[]api.Rec{a, b, c, a}, []api.Rec{a, c, b, a}, 1}, {[]api.Rec{a, b}, []api.Rec{c, b, a}, 0}, {[]api.Rec{a, b}, []api.Rec{a, c, c, c}, 1}, {[]api.Rec{a, b}, []api.Rec{b}, 0},
	} {
		wasA, wasB := slices.Clone(x.a), slices.Clone(x.b)
		for _, got := range []int{replay.Differ(x.a, x.b), replay.Differ(x.b, x.a), plainDiffer(x.a, x.b)} {
			if got != x.want {
				t.Errorf("%d: %v and %v are unlike at %d, want %d", n, x.a, x.b, got, x.want)
			}
		}
		if !slices.Equal(x.a, wasA) || !slices.Equal(x.b, wasB) {
			t.Errorf("%d: Differ changed a trace", n)
		}
	}
}

// P38.1: each field counts, in full, at each place.
func TestDifferOfEachField(t *testing.T) {
	base := slices.Repeat([]api.Rec{{Kind: 1, Cpu: 2, Id: 3, N: 4, Why: 5}}, 20)
	for at := range base {
		for field := range 5 {
			for _, more := range []int{1, -1, 1 << 32, 1 << 40, math.MinInt} {
				other := slices.Clone(base)
				r := &other[at]
				switch field {
				case 0:
					r.Kind += more
				case 1:
					r.Cpu += more
				case 2:
					r.Id += more
				case 3:
					r.N += int64(more)
				case 4:
					r.Why += api.Errno(more)
				}
				for _, end := range []int{at, at + 1, 20} {
					want := at
					if end == at {
						want = -1
					}
					if n := replay.Differ(base[:end], other[:end]); n != want {
						t.Errorf("%v and %v are unlike at %d, want %d", base[:end], other[:end], n, want)
					}
					if n := replay.Differ(base, other[:end]); n != at {
						t.Errorf("a trace and %d records are unlike at %d, want %d", end, n, at)
					}
				}
			}
		}
	}
}

// P38.1: any two traces, against the plain one.
func TestAnyDiffer(t *testing.T) {
	roll := drill.New(38)
	trace := func() []api.Rec {
		l := make([]api.Rec, roll.Roll(6))
		for at := range l {
			l[at].Kind = roll.Roll(8) / 7
		}
		return l
	}
	var alike, unlike int
	for range 20000 {
		a, b := trace(), trace()
		n := replay.Differ(a, b)
		if n != plainDiffer(a, b) {
			t.Fatalf("%v and %v are unlike at %d", a, b, n)
		}
		if n == -1 {
			alike++
		} else {
			unlike++
		}
	}
	if alike < 1000 || unlike < 1000 {
		t.Error("alike", alike, "unlike", unlike)
	}
}

// What is written into an answer, or appended to it, or into what was handed in, is in no other one.
func TestAnswersAreTheCallers(t *testing.T) {
	l := []api.Ev{{Kind: api.EvSpawn, Mask: 1}, {Kind: api.EvStep}, {Kind: api.EvStep}}
	kept := slices.Clone(l)
	more := append(slices.Clone(l), api.Ev{Kind: api.EvTick, N: 3})
	// A list that goes on behind what is handed in.
	plain := replay.Plain(more[:3]...)
	again := replay.Plain(more[:3]...)
	clear(plain[:1])
	_ = append(plain[:1], api.Ev{Kind: 98}, api.Ev{Kind: 98}, api.Ev{Kind: 98})
	_ = append(plain, api.Ev{Kind: 99})
	if !slices.Equal(again, kept) || !slices.Equal(more[:3], kept) || more[3] != (api.Ev{Kind: api.EvTick, N: 3}) {
		t.Errorf("what was written into Plain's answer is seen: %v, %v", again, more)
	}
	trace := traced(t, 1, more...)
	want := slices.Clone(trace)
	other := traced(t, 1, more...)
	clear(trace)
	_ = append(trace[:1], api.Rec{Kind: 99})
	clear(more)
	if !slices.Equal(other, want) || !slices.Equal(again, kept) || !slices.Equal(traced(t, 1, l...), want[:3]) {
		t.Error("what was written into a list is seen in another one")
	}
}
