package stage_test

import (
	"math"
	"testing"

	"davit/api"
	"davit/stage"
)

// made is a run of so many stages, some of which are done.
func made(t *testing.T, stages, done int) *stage.Run {
	t.Helper()
	r, why := stage.New(stages)
	gives(t, "New", why, api.OK)
	for range done {
		gives(t, "Done", r.Done(), api.OK)
	}
	return r
}

// gives holds what a call answered against what it must.
func gives(t *testing.T, what string, why, want api.Errno) {
	t.Helper()
	if why != want {
		t.Fatalf("%s = %d, want %d", what, why, want)
	}
}

// plain is what a run must be: for each stage whether it is done, and whether it goes back.
type plain struct {
	done []bool
	back bool
}

// next is the stage that is to be done, or undone; -1, if it is over.
func (p *plain) next() int {
	if p.back {
		for k := len(p.done) - 1; k >= 0; k-- {
			if p.done[k] {
				return k
			}
		}
		return -1
	}
	for k, done := range p.done {
		if !done {
			return k
		}
	}
	return -1
}

func (p *plain) finish() api.Errno {
	k := p.next()
	if k < 0 {
		return api.ErrState
	}
	p.done[k] = !p.back
	return api.OK
}

func (p *plain) fail() api.Errno {
	if p.back || p.next() < 0 {
		return api.ErrState
	}
	p.back = true
	return api.OK
}

func (p *plain) why() api.Errno {
	switch {
	case p.next() >= 0:
		return api.ErrBusy
	case p.back:
		return api.ErrFail
	}
	return api.OK
}

func (p *plain) many() int {
	many := 0
	for _, done := range p.done {
		if done {
			many++
		}
	}
	return many
}

// is says by each call that only looks what a run is.
func is(t *testing.T, what string, r *stage.Run, at int, back, over bool, why api.Errno, many int) {
	t.Helper()
	if k, b, o := r.At(); k != at || b != back || o != over {
		t.Fatalf("%s: At = %d, %v, %v, want %d, %v, %v", what, k, b, o, at, back, over)
	}
	gives(t, what+": Why", r.Why(), why)
	if r.Many() != many {
		t.Fatalf("%s: Many = %d, want %d", what, r.Many(), many)
	}
}

// holds says that a run is as the plain one.
func holds(t *testing.T, what string, r *stage.Run, p *plain) {
	t.Helper()
	k := p.next()
	is(t, what, r, max(k, 0), p.back, k < 0, p.why(), p.many())
}

func TestNewRefuses(t *testing.T) {
	for _, stages := range []int{math.MinInt, -1 << 32, -64, -1, 0, 65, 66, 128, 1 << 32, 1<<32 + 1, math.MaxInt} {
		if r, why := stage.New(stages); r != nil || why != api.ErrArg {
			t.Errorf("New(%d) = %v, %d", stages, r, why)
		}
	}
}

func TestNew(t *testing.T) {
	for _, stages := range []int{1, 2, 4, 10, 63, 64} {
		is(t, "new", made(t, stages, 0), 0, false, false, api.ErrBusy, 0)
	}
}

func TestExample(t *testing.T) {
	r := made(t, 3, 1)
	gives(t, "Fail", r.Fail(), api.OK)
	is(t, "failed", r, 0, true, false, api.ErrBusy, 1)
	gives(t, "Done", r.Done(), api.OK)
	is(t, "undone", r, 0, true, true, api.ErrFail, 0)
}

// TestForward: each stage in its order, then it is over, and nothing goes on.
func TestForward(t *testing.T) {
	for stages := 1; stages <= 64; stages++ {
		r := made(t, stages, 0)
		for k := range stages {
			is(t, "forward", r, k, false, false, api.ErrBusy, k)
			gives(t, "Done", r.Done(), api.OK)
		}
		for range 3 {
			is(t, "over", r, 0, false, true, api.OK, stages)
			gives(t, "Done when over", r.Done(), api.ErrState)
			gives(t, "Fail when over", r.Fail(), api.ErrState)
		}
	}
}

// TestBack: of each number of stages, failing at each: those ahead of it are undone, the last one first, and no other one.
func TestBack(t *testing.T) {
	for stages := 1; stages <= 64; stages++ {
		for at := range stages {
			r := made(t, stages, at)
			gives(t, "Fail", r.Fail(), api.OK)
			for k := at - 1; k >= 0; k-- {
				is(t, "back", r, k, true, false, api.ErrBusy, k+1)
				gives(t, "Fail when back", r.Fail(), api.ErrState)
				is(t, "refused", r, k, true, false, api.ErrBusy, k+1)
				gives(t, "Done", r.Done(), api.OK)
			}
			for range 2 {
				is(t, "over", r, 0, true, true, api.ErrFail, 0)
				gives(t, "Done when over", r.Done(), api.ErrState)
				gives(t, "Fail when over", r.Fail(), api.ErrState)
			}
		}
	}
}

// TestFailAtFirst: nothing is to be undone: it is over at once.
func TestFailAtFirst(t *testing.T) {
	r := made(t, 5, 0)
	gives(t, "Fail", r.Fail(), api.OK)
	is(t, "failed", r, 0, true, true, api.ErrFail, 0)
}

func TestLookingChangesNothing(t *testing.T) {
	r := made(t, 4, 2)
	for range 5 {
		is(t, "looked at", r, 2, false, false, api.ErrBusy, 2)
	}
}

func TestRunsShareNothing(t *testing.T) {
	a, b := made(t, 3, 0), made(t, 3, 0)
	gives(t, "Done", a.Done(), api.OK)
	is(t, "the other", b, 0, false, false, api.ErrBusy, 0)
	gives(t, "Fail", b.Fail(), api.OK)
	is(t, "the one", a, 1, false, false, api.ErrBusy, 1)
}

func TestNil(t *testing.T) {
	var r *stage.Run
	gives(t, "Done", r.Done(), api.ErrNil)
	gives(t, "Fail", r.Fail(), api.ErrNil)
	is(t, "nil", r, 0, false, true, api.ErrNil, 0)
}

// TestZero: a run that New did not make has no stages.
func TestZero(t *testing.T) {
	var r stage.Run
	is(t, "zero", &r, 0, false, true, api.OK, 0)
	gives(t, "Done", r.Done(), api.ErrState)
	gives(t, "Fail", r.Fail(), api.ErrState)
	is(t, "zero", &r, 0, false, true, api.OK, 0)
}

func TestMixedRuns(t *testing.T) {
	state := uint64(21)
	pick := func(n int) int {
		state = state*6364136223846793005 + 1442695040888963407
		return int(state>>33) % n
	}
	for range 2000 {
		stages := 1 + pick(64)
		r, p := made(t, stages, 0), &plain{done: make([]bool, stages)}
		odds := 1 + pick(40)
		for range pick(150) {
			if pick(odds+1) == odds {
				gives(t, "Fail", r.Fail(), p.fail())
			} else {
				gives(t, "Done", r.Done(), p.finish())
			}
			holds(t, "mixed", r, p)
		}
	}
}
