package tally_test

import (
	"testing"

	"davit/api"
	"davit/drill"
	"davit/kernel"
	"davit/mask"
	"davit/tally"
)

// noCpus is of how many cores there is no kernel.
var noCpus = []int{0, -1, 65, 66, 128, 1 << 20, 1 << 31, -1 << 63, 1<<63 - 1, -64, 1<<32 + 1}

// stamped is a record, and the event that it came of.
type stamped struct {
	at   int
	kind int
	rec  api.Rec
}

// trace is all records of events.
func trace(t *testing.T, cpus int, l []api.Ev) []stamped {
	t.Helper()
	k, why := kernel.New(cpus)
	if why != api.OK {
		t.Fatalf("New(%d) = %d", cpus, why)
	}
	var all []stamped
	for at, e := range l {
		for _, r := range k.Do(e) {
			all = append(all, stamped{at, e.Kind, r})
		}
	}
	return all
}

// many is how many of the records are such ones.
func many(all []stamped, such func(r api.Rec) bool) int64 {
	var n int64
	for _, s := range all {
		if such(s.rec) {
			n++
		}
	}
	return n
}

// answered is at which event the number of what is done by a record was answered: the last one ahead of it.
func answered(t *testing.T, all []stamped, done int) int {
	t.Helper()
	kind := map[int]int{api.RecWork: api.EvQueue, api.RecCall: api.EvCall}[all[done].rec.Kind]
	for at := done - 1; at >= 0; at-- {
		s := all[at]
		if s.kind == kind && s.rec == (api.Rec{Kind: api.RecRet, Id: all[done].rec.Id}) {
			return s.at
		}
	}
	t.Fatalf("nothing answered the number of %+v", all[done])
	return 0
}

// plain is a tally for which a whole trace is gone through again and again, and looked at backwards from each thing that is done.
func plain(t *testing.T, cpus int, l []api.Ev) tally.Tally {
	t.Helper()
	all := trace(t, cpus, l)
	want := tally.Tally{
		Well:   many(all, func(r api.Rec) bool { return r.Kind == api.RecHot && r.Why == api.OK }),
		Failed: many(all, func(r api.Rec) bool { return r.Kind == api.RecHot && r.Why != api.OK }),
		Errors: many(all, func(r api.Rec) bool { return r.Kind == api.RecRet && r.Why != api.OK }),
		Done:   many(all, func(r api.Rec) bool { return r.Kind == api.RecWork || r.Kind == api.RecCall }),
	}
	for n, kind := range []int{api.RecRun, api.RecFire, api.RecHandle, api.RecWork, api.RecCall} {
		want.Things[n] = many(all, func(r api.Rec) bool { return r.Kind == kind })
	}
	for cpu := range cpus {
		want.Cores = append(want.Cores, many(all, func(r api.Rec) bool { return r.Kind != api.RecRet && r.Kind != api.RecHot && r.Cpu == cpu }))
	}
	for _, e := range l {
		if e.Kind == api.EvStep {
			want.Steps++
		}
	}
	for n, s := range all {
		if s.rec.Kind == api.RecWork || s.rec.Kind == api.RecCall {
			waits := int64(s.at - answered(t, all, n))
			want.Waited += waits
			if waits > want.Most {
				want.Most = waits
			}
		}
	}
	return want
}

// same is whether two tallies are alike.
func same(a, b tally.Tally) bool {
	if len(a.Cores) != len(b.Cores) {
		return false
	}
	for cpu := range a.Cores {
		if a.Cores[cpu] != b.Cores[cpu] {
			return false
		}
	}
	return a.Steps == b.Steps && a.Things == b.Things && a.Well == b.Well && a.Failed == b.Failed && a.Errors == b.Errors && a.Done == b.Done && a.Waited == b.Waited && a.Most == b.Most
}

// of is the tally of a script that has one.
func of(t *testing.T, cpus int, l ...api.Ev) tally.Tally {
	t.Helper()
	got, why := tally.Of(cpus, l...)
	if why != api.OK {
		t.Fatalf("Of(%d, %d events) = %d", cpus, len(l), why)
	}
	return got
}

// busy is a script by dice in which much waits long: works and calls for all cores, steps of few of them, requests, and stages that fail.
func busy(dice *drill.Dice, cpus, events int) []api.Ev {
	var l []api.Ev
	slow := mask.Of(dice.Roll(cpus), dice.Roll(cpus))
	for len(l) < events {
		e := api.Ev{Kind: api.EvStep, Cpu: dice.Roll(cpus), Id: dice.Roll(5), N: int64(dice.Roll(20)), Mask: uint64(dice.Roll(1<<20)) & uint64(mask.Upto(cpus))}
		switch n := dice.Roll(40); {
		case n < 6:
			e.Kind = api.EvCall
		case n < 12:
			e.Kind, e.Cpu = api.EvQueue, e.Cpu-dice.Roll(2)*(e.Cpu+1)
		case n < 14:
			e = dice.Event(cpus)
		case n == 14:
			e.Kind = api.EvOffline
		case n == 15:
			e.Kind = api.EvOnline
		case n == 16:
			e.Kind = api.EvDrop
		case n == 17 && dice.Roll(4) == 0:
			e.Kind = api.EvFail
		case slow.Has(e.Cpu) && dice.Roll(5) > 0:
			e.Kind, e.N = api.EvTick, 1
		}
		l = append(l, e)
	}
	return l
}
