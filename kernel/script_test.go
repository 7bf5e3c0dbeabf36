package kernel_test

import (
	"math"
	"slices"
	"testing"

	"davit/api"
	"davit/kernel"
	"davit/mask"
)

// anyEvent is an event of any kind, half of them steps, mostly of things that may be there.
func anyEvent(pick func(n int) int, cpus int) api.Ev {
	e := api.Ev{Kind: api.EvStep, Cpu: pick(cpus)}
	if pick(2) == 0 {
		return e
	}
	e.Kind = 1 + pick(30)
	if pick(60) == 0 {
		e.Kind = anyKinds()[pick(10)]
	}
	e.Id = []int{pick(4), pick(8), pick(17), pick(36), pick(100) - 1}[pick(5)]
	e.Mask = uint64(pick(1<<31)) * uint64(pick(1<<31)) >> pick(8) & uint64(mask.Upto(cpus))
	e.N = []int64{int64(pick(4)), int64(pick(12)), int64(pick(100)), int64(pick(2000)), int64(e.Id) + int64(pick(300))}[pick(5)]
	switch pick(40) {
	case 0:
		e.Cpu = append(noCores, -1, cpus)[pick(13)]
	case 1:
		e.Id = noCores[pick(11)]
	case 2:
		e.Mask = []uint64{0, 1 << 63, math.MaxUint64}[pick(3)]
	case 3:
		e.N = append(noDelays, api.MaxDelay)[pick(10)]
	case 4:
		e.Cpu = -1
	}
	// Readers, and stages that fail, are there seldom, so that requests come to their ends.
	if e.Kind == api.EvHold && pick(3) > 0 {
		e.Kind = api.EvDrop
	}
	if e.Kind == api.EvFail && pick(3) > 0 {
		e.Kind = api.EvOffline
	}
	return e
}

// watch is what must hold of all scripts, whatever a kernel is inside.
type watch struct {
	*testing.T
	k      *kernel.Kernel
	things int64
	gone   mask.Mask
	kinds  [8]int // of records, how many there were
	errs   [18]int
}

// do does an event, and holds what comes of it against P28.2 to P28.5.
func (w *watch) do(e api.Ev) []api.Rec {
	w.Helper()
	online, active := w.k.Online(), w.k.Active()
	up, cpu := w.k.Desk().Up(), w.k.Desk().Cpu()
	l := w.k.Do(e)
	if len(l) > 1 || len(l) == 0 && e.Kind != api.EvStep {
		w.Fatalf("Do(%+v) = %+v", e, l)
	}
	for _, r := range l {
		w.kinds[r.Kind]++
		w.errs[r.Why]++
		switch {
		case r.Kind == api.RecHot && r.Why == api.OK:
			if up {
				online = online.With(cpu)
			} else {
				online, w.gone = online.Less(cpu), w.gone.With(cpu)
			}
			if r.Cpu != cpu {
				w.Fatalf("a request of %d, and %+v", cpu, r)
			}
		case r.Kind == api.RecHot:
		case r.Kind != api.RecRet:
			w.things++
			if !active.Has(r.Cpu) || r.Cpu != e.Cpu || e.Kind != api.EvStep {
				w.Fatalf("Do(%+v) = %+v, active are %v", e, l, active)
			}
		case e.Kind == api.EvOnline && r.Why == api.OK:
			w.gone = w.gone.Less(e.Cpu)
		}
	}
	if w.k.Online() != online {
		w.Fatalf("Do(%+v) = %+v: online are %v, want %v", e, l, w.k.Online(), online)
	}
	for _, cpu := range w.gone.List() {
		gone(w.T, w.k, cpu)
	}
	if sum, why := w.k.Counts().Sum(); sum != w.things || why != api.OK {
		w.Fatalf("%d things were done, Sum is %d, %d", w.things, sum, why)
	}
	return l
}

// P28.1 to P28.5, at long scripts of any events, step by step against a plain kernel.
func TestScripts(t *testing.T) {
	var kinds [8]int
	var errs [18]int
	for n, c := range []struct{ cpus, events, each int }{
		{1, 3000, 1}, {2, 8000, 1}, {2, 8000, 1}, {3, 8000, 1}, {3, 8000, 1}, {4, 8000, 1}, {5, 8000, 1}, {7, 6000, 1}, {16, 6000, 5}, {63, 6000, 20}, {64, 12000, 20},
	} {
		pick := picks(uint64(28 + n))
		b := newBoth(t, c.cpus)
		w := &watch{T: t, k: b.k}
		for at := range c.events {
			e := anyEvent(pick, c.cpus)
			told := b.p.do(e)
			if got := w.do(e); !slices.Equal(got, told) {
				t.Fatalf("script %d, event %d: Do(%+v) = %+v, want %+v", n, at, e, got, told)
			}
			if at%c.each == 0 {
				same(t, b.k, b.p)
			}
		}
		for kind, many := range w.kinds {
			kinds[kind] += many
		}
		for why, many := range w.errs {
			errs[why] += many
		}
	}
	// All of it came about.
	for kind := api.RecRet; kind <= api.RecHot; kind++ {
		if kinds[kind] < 20 {
			t.Errorf("of the record %d there were %d", kind, kinds[kind])
		}
	}
	for _, why := range []api.Errno{api.OK, api.ErrArg, api.ErrRange, api.ErrNone, api.ErrFull, api.ErrState, api.ErrBusy, api.ErrOnline, api.ErrOffline, api.ErrLast, api.ErrFail, api.ErrEmpty} {
		if errs[why] < 5 {
			t.Errorf("of the error %d there were %d", why, errs[why])
		}
	}
}

// An event that is answered by an error leaves what is there as it was.
func TestRefusedChangesNothing(t *testing.T) {
	pick := picks(5)
	b := newBoth(t, 3)
	refused := 0
	for range 4000 {
		e := anyEvent(pick, 3)
		l := b.k.Do(e)
		if len(l) == 1 && l[0].Kind == api.RecRet && l[0].Why != api.OK {
			refused++
			// The plain one has not done the event as yet.
			same(t, b.k, b.p)
		}
		b.p.do(e)
	}
	if refused < 500 {
		t.Error("refused", refused)
	}
}

// Limits of latency and of frequencies change no trace.
func TestPowerChangesNoTrace(t *testing.T) {
	for n := range 4 {
		pick := picks(uint64(90 + n))
		a, _ := kernel.New(4)
		z, _ := kernel.New(4)
		for at := range 6000 {
			e := anyEvent(pick, 4)
			if at%50 == 0 {
				z.Do(api.Ev{Kind: api.EvLimit, N: int64(pick(60))})
				z.Do(api.Ev{Kind: api.EvSpeed, Id: 1 + pick(5), N: int64(10 + pick(1000))})
			}
			if x, y := a.Do(e), z.Do(e); !slices.Equal(x, y) {
				t.Fatalf("event %d: Do(%+v) = %+v, and %+v", at, e, x, y)
			}
		}
	}
}

// If all cores take their turns, no reader is there, and nothing new comes, all that waits is done, and each request returns.
func TestAllIsDone(t *testing.T) {
	pick := picks(77)
	b := newBoth(t, 5)
	for range 40 {
		for range 60 {
			b.run(anyEvent(pick, 5))
		}
		for cpu := range 5 {
			for b.k.Gate().On(cpu) > 0 {
				b.ok(api.Ev{Kind: api.EvDrop, Cpu: cpu}, 0)
			}
		}
		waits := func() bool {
			many := b.k.Works().Load(-1)
			for cpu := range 5 {
				many += b.k.Calls().Load(cpu) + b.k.Works().Load(cpu)
				if b.k.Timers().Ready(cpu) {
					many++
				}
			}
			for n := range 16 {
				if b.k.Irqs().Ready(n) {
					many++
				}
			}
			return many > 0 || b.k.Desk().Busy()
		}
		windows := 0
		for ; waits() && windows < 500; windows++ {
			for cpu := range 5 {
				b.run(api.Ev{Kind: api.EvStep, Cpu: cpu})
			}
		}
		if waits() {
			t.Fatal("something waits still")
		}
	}
}
