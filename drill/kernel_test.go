package drill_test

import (
	"testing"

	"davit/api"
	"davit/audit"
	"davit/kernel"
	"davit/model"
	"davit/refine"
)

// met is how many records of each kind, and with each error, there were.
type met struct {
	kinds [8]int
	whys  [18]int
	ends  [2][2]int // of requests: of going or coming, returned OK or failed
}

// behind lets a kernel do events, and a model follow, and tells what they come to.
func (m *met) behind(t *testing.T, cpus int, l []api.Ev) {
	t.Helper()
	k, _ := kernel.New(cpus)
	s, _ := model.New(cpus)
	for at, e := range l {
		up := s.Up
		recs := k.Do(e)
		next, why := model.Next(s, e, recs...)
		if why != api.OK {
			t.Fatalf("%d cores: the event %d, %+v, is answered by %+v: %d", cpus, at, e, recs, why)
		}
		s = next
		if is, why := refine.Of(k); why != api.OK || !model.Same(is, s) {
			t.Fatalf("%d cores: behind the event %d, %+v, the kernel is %+v, %d, the model %+v", cpus, at, e, is, why, s)
		}
		for _, r := range recs {
			m.kinds[r.Kind]++
			m.whys[r.Why]++
			if r.Kind == api.RecHot {
				m.ends[bit(up)][bit(r.Why == api.OK)]++
			}
		}
	}
	p, _ := audit.Of(k)
	if rule, why := audit.Check(p); why != api.OK {
		t.Errorf("%d cores: the rule %d does not hold: %+v", cpus, rule, p)
	}
}

func bit(is bool) int {
	if is {
		return 1
	}
	return 0
}

// P30.3, with rolled scripts of few and of many cores, and events.
func TestCheckOfRolledScripts(t *testing.T) {
	for _, cpus := range []int{1, 2, 3, 4, 5, 7, 8, 9, 32, 63, 64} {
		for at, seed := range seeds {
			many := []int{600, 600, 600, 600, 0, 1, 2, 599, 300, 600, 600}[at]
			if n, why := refine.Check(cpus, script(t, cpus, seed, many)...); n != many || why != api.OK {
				t.Errorf("seed %d, %d cores: Check tells %d, %d", seed, cpus, n, why)
			}
		}
	}
	for seed := range uint64(300) {
		cpus := 1 + int(seed)%6
		if n, why := refine.Check(cpus, script(t, cpus, seed<<40, 600)...); n != 600 || why != api.OK {
			t.Errorf("seed %d, %d cores: Check tells %d, %d", seed, cpus, n, why)
		}
	}
}

// A script of other cores than the kernel has is events all the same.
func TestCheckOfOtherCores(t *testing.T) {
	for _, seed := range seeds {
		for _, c := range [][2]int{{1, 64}, {64, 1}, {2, 3}, {3, 2}, {8, 4}} {
			if n, why := refine.Check(c[0], script(t, c[1], seed, 600)...); n != 600 || why != api.OK {
				t.Errorf("seed %d, %d and %d cores: Check tells %d, %d", seed, c[0], c[1], n, why)
			}
		}
	}
}

// P30.3: a kernel behind rolled scripts is what the model says, at each event; and what scripts are for is tried by them.
func TestKernelBehindRolledScripts(t *testing.T) {
	var m met
	for cpus := 1; cpus <= 64; cpus++ {
		m.behind(t, cpus, script(t, cpus, uint64(cpus)<<32, 600))
	}
	for seed := range uint64(150) {
		cpus := 1 + int(seed)%5
		m.behind(t, cpus, script(t, cpus, seed, 600))
	}
	for kind := api.RecRet; kind <= api.RecHot; kind++ {
		if m.kinds[kind] < 50 {
			t.Errorf("of the record %d there were %d", kind, m.kinds[kind])
		}
	}
	for _, why := range []api.Errno{api.OK, api.ErrArg, api.ErrRange, api.ErrNone, api.ErrState, api.ErrBusy, api.ErrOnline, api.ErrOffline, api.ErrLast, api.ErrFail, api.ErrEmpty} {
		if m.whys[why] < 50 {
			t.Errorf("of the error %d there were %d", why, m.whys[why])
		}
	}
	for _, many := range []int{m.ends[0][0], m.ends[0][1], m.ends[1][0], m.ends[1][1]} {
		if many < 5 {
			t.Errorf("requests that failed, and returned OK, of going %v, of coming %v", m.ends[0], m.ends[1])
		}
	}
}
