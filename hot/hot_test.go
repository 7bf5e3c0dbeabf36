package hot_test

import (
	"math"
	"testing"

	"davit/api"
	"davit/hot"
)

// noCores are numbers that are no cores at all.
var noCores = []int{math.MinInt, -1 << 32, -64, -2, -1, 64, 65, 128, 1 << 32, 1<<32 - 1, 1<<32 + 1, math.MaxInt}

// gives holds what a call answered against what it must.
func gives(t *testing.T, what string, why, want api.Errno) {
	t.Helper()
	if why != want {
		t.Fatalf("%s = %d, want %d", what, why, want)
	}
}

// tells holds what Next answered against what it must.
func tells(t *testing.T, d *hot.Desk, want hot.Step, wantWhy api.Errno) {
	t.Helper()
	if step, why := d.Next(); step != want || why != wantWhy {
		t.Fatalf("Next = %+v, %d, want %+v, %d", step, why, want, wantWhy)
	}
}

// ends holds what End answered against what it must.
func ends(t *testing.T, d *hot.Desk, want, wantWhy api.Errno) {
	t.Helper()
	if how, why := d.End(); how != want || why != wantWhy {
		t.Fatalf("End = %d, %d, want %d, %d", how, why, want, wantWhy)
	}
}

// planned is a desk without a request, of which some stages are planned.
func planned(t *testing.T, stages ...int) *hot.Desk {
	t.Helper()
	d := &hot.Desk{}
	for _, stage := range stages {
		gives(t, "Plan", d.Plan(stage), api.OK)
	}
	return d
}

// begin lets core 3 come, or go, by core 1's steps, till so many stages are done.
func begin(t *testing.T, d *hot.Desk, up bool, done int) {
	t.Helper()
	gives(t, "Begin", d.Begin(up, 3, 1), api.OK)
	for k := range done {
		tells(t, d, hot.Step{Stage: k}, api.OK)
		gives(t, "Done", d.Done(), api.OK)
	}
}

// undoes says that so many stages are undone, the last one first, and that it is over then.
func undoes(t *testing.T, d *hot.Desk, many int) {
	t.Helper()
	for k := many - 1; k >= 0; k-- {
		if d.Over() {
			t.Fatalf("Over ahead of undoing %d", k)
		}
		ends(t, d, api.OK, api.ErrState)
		tells(t, d, hot.Step{Stage: k, Undo: true}, api.OK)
		gives(t, "Done", d.Done(), api.OK)
	}
	isOver(t, d)
	ends(t, d, api.ErrFail, api.OK)
	holds(t, "ended", d, &plain{})
}

// isOver says that nothing goes on any more.
func isOver(t *testing.T, d *hot.Desk) {
	t.Helper()
	if !d.Over() || !d.Busy() {
		t.Fatalf("Over = %v, Busy = %v", d.Over(), d.Busy())
	}
	tells(t, d, hot.Step{}, api.ErrState)
	gives(t, "Done when over", d.Done(), api.ErrState)
}

// many is how many stages coming, or going, has.
func many(up bool) int {
	if up {
		return 4
	}
	return 10
}

// plain is what a desk must be: which stages are planned; whether there is a request, of what kind, whose and by whom, how many stages it has done, whether it goes back, whether its stage was told.
type plain struct {
	planned  [10]bool
	busy, up bool
	cpu, by  int
	done     int
	back     bool
	told     bool
}

func (p *plain) over() bool {
	return p.busy && (p.back && p.done == 0 || !p.back && p.done == many(p.up))
}

func (p *plain) plan(stage int) api.Errno {
	if stage < 0 || stage > 9 {
		return api.ErrRange
	}
	p.planned[stage] = true
	return api.OK
}

func (p *plain) begin(up bool, cpu, by int) api.Errno {
	switch {
	case p.busy:
		return api.ErrBusy
	case cpu < 0 || cpu > 63 || by < 0 || by > 63:
		return api.ErrRange
	case cpu == by:
		return api.ErrArg
	}
	*p = plain{planned: p.planned, busy: true, up: up, cpu: cpu, by: by}
	return api.OK
}

func (p *plain) next() (hot.Step, api.Errno) {
	switch {
	case !p.busy:
		return hot.Step{}, api.ErrEmpty
	case p.over():
		return hot.Step{}, api.ErrState
	case p.back:
		return hot.Step{Stage: p.done - 1, Undo: true}, api.OK
	case p.planned[p.done] && !p.told:
		p.planned[p.done], p.back = false, true
		return hot.Step{Stage: p.done, Fails: true}, api.OK
	}
	p.told = true
	return hot.Step{Stage: p.done}, api.OK
}

func (p *plain) finish() api.Errno {
	switch {
	case !p.busy:
		return api.ErrEmpty
	case p.over():
		return api.ErrState
	case p.back:
		p.done--
	default:
		p.done++
	}
	p.told = false
	return api.OK
}

func (p *plain) end() (api.Errno, api.Errno) {
	switch {
	case !p.busy:
		return api.OK, api.ErrEmpty
	case !p.over():
		return api.OK, api.ErrState
	}
	back := p.back
	*p = plain{planned: p.planned}
	if back {
		return api.ErrFail, api.OK
	}
	return api.OK, api.OK
}

// holds says by each call that only looks that a desk is as it must be.
func holds(t *testing.T, what string, d *hot.Desk, p *plain) {
	t.Helper()
	if d.Busy() != p.busy || d.Over() != p.over() {
		t.Fatalf("%s: Busy = %v, Over = %v, want %v, %v", what, d.Busy(), d.Over(), p.busy, p.over())
	}
	if d.Up() != p.up || d.Cpu() != p.cpu || d.By() != p.by {
		t.Fatalf("%s: Up = %v, Cpu = %d, By = %d, want %v, %d, %d", what, d.Up(), d.Cpu(), d.By(), p.up, p.cpu, p.by)
	}
}

// goesThrough says that nothing is planned of the stages of coming, or going.
func goesThrough(t *testing.T, d *hot.Desk, up bool) {
	t.Helper()
	begin(t, d, up, many(up))
	isOver(t, d)
	ends(t, d, api.OK, api.OK)
	holds(t, "gone through", d, &plain{})
}

func TestZeroHasNoRequestAndNothingPlanned(t *testing.T) {
	for _, up := range []bool{true, false} {
		var d hot.Desk
		holds(t, "zero", &d, &plain{})
		tells(t, &d, hot.Step{}, api.ErrEmpty)
		gives(t, "Done", d.Done(), api.ErrEmpty)
		ends(t, &d, api.OK, api.ErrEmpty)
		holds(t, "refused", &d, &plain{})
		goesThrough(t, &d, up)
		goesThrough(t, &d, !up)
	}
}

func TestExample(t *testing.T) {
	for _, up := range []bool{true, false} {
		d := planned(t, 1)
		begin(t, d, up, 1)
		tells(t, d, hot.Step{Stage: 1, Fails: true}, api.OK)
		tells(t, d, hot.Step{Stage: 0, Undo: true}, api.OK)
		gives(t, "Done", d.Done(), api.OK)
		isOver(t, d)
		ends(t, d, api.ErrFail, api.OK)
	}
}

func TestPlanRefuses(t *testing.T) {
	d := &hot.Desk{}
	for _, stage := range []int{math.MinInt, -1 << 32, -10, -1, 10, 11, 64, 1 << 32, 1<<32 + 1, math.MaxInt} {
		gives(t, "Plan", d.Plan(stage), api.ErrRange)
	}
	goesThrough(t, d, true)
	goesThrough(t, d, false)
}

// TestPlanned: each stage of each kind fails when it is come to, once; what is planned of another stage stays so.
func TestPlanned(t *testing.T) {
	for _, up := range []bool{true, false} {
		for k := range many(up) {
			d := planned(t, k)
			begin(t, d, up, k)
			tells(t, d, hot.Step{Stage: k, Fails: true}, api.OK)
			undoes(t, d, k)
			goesThrough(t, d, up)
		}
	}
}

// TestPlannedTwiceFailsOnce: a stage is planned or not.
func TestPlannedTwiceFailsOnce(t *testing.T) {
	d := planned(t, 2, 2, 2)
	begin(t, d, true, 2)
	tells(t, d, hot.Step{Stage: 2, Fails: true}, api.OK)
	undoes(t, d, 2)
	goesThrough(t, d, true)
}

// TestPlannedOfOthersStays: coming does not come to the stages from 4 on, and what failed does not come to the later ones.
func TestPlannedOfOthersStays(t *testing.T) {
	d := planned(t, 9, 4, 7)
	goesThrough(t, d, true)
	for _, k := range []int{4, 7, 9} {
		begin(t, d, false, k)
		tells(t, d, hot.Step{Stage: k, Fails: true}, api.OK)
		undoes(t, d, k)
		goesThrough(t, d, true)
	}
	goesThrough(t, d, false)
}

// TestPlannedByBothKinds: a stage is planned for whichever request comes to it first.
func TestPlannedByBothKinds(t *testing.T) {
	for _, up := range []bool{true, false} {
		d := planned(t, 3)
		begin(t, d, up, 3)
		tells(t, d, hot.Step{Stage: 3, Fails: true}, api.OK)
		undoes(t, d, 3)
		goesThrough(t, d, !up)
	}
}

// TestPlannedWhileThereIsARequest: of a stage ahead, and of the one that is next, as long as none has told it.
func TestPlannedWhileThereIsARequest(t *testing.T) {
	for ahead := range 3 {
		d := &hot.Desk{}
		begin(t, d, true, 1)
		gives(t, "Plan", d.Plan(1+ahead), api.OK)
		for k := range ahead {
			tells(t, d, hot.Step{Stage: 1 + k}, api.OK)
			gives(t, "Done", d.Done(), api.OK)
		}
		tells(t, d, hot.Step{Stage: 1 + ahead, Fails: true}, api.OK)
		undoes(t, d, 1+ahead)
	}
}

// TestToldDoesNotFail: what is planned of a stage that was told stays planned, for the next request.
func TestToldDoesNotFail(t *testing.T) {
	for k := range 4 {
		d := &hot.Desk{}
		begin(t, d, true, k)
		tells(t, d, hot.Step{Stage: k}, api.OK)
		gives(t, "Plan", d.Plan(k), api.OK)
		for range 3 {
			tells(t, d, hot.Step{Stage: k}, api.OK)
		}
		gives(t, "Done", d.Done(), api.OK)
		for stage := k + 1; stage < 4; stage++ {
			tells(t, d, hot.Step{Stage: stage}, api.OK)
			gives(t, "Done", d.Done(), api.OK)
		}
		ends(t, d, api.OK, api.OK)
		begin(t, d, false, k)
		tells(t, d, hot.Step{Stage: k, Fails: true}, api.OK)
		undoes(t, d, k)
	}
}

// TestToldIsOfOneStage: that one was told says nothing of the next one.
func TestToldIsOfOneStage(t *testing.T) {
	d := &hot.Desk{}
	begin(t, d, false, 0)
	tells(t, d, hot.Step{}, api.OK)
	gives(t, "Plan", d.Plan(1), api.OK)
	gives(t, "Done", d.Done(), api.OK)
	tells(t, d, hot.Step{Stage: 1, Fails: true}, api.OK)
	undoes(t, d, 1)
}

// TestDoneUntold: a planned stage that is done though no Next told it stays planned.
func TestDoneUntold(t *testing.T) {
	d := planned(t, 1)
	begin(t, d, true, 1)
	gives(t, "Done untold", d.Done(), api.OK)
	tells(t, d, hot.Step{Stage: 2}, api.OK)
	gives(t, "Done", d.Done(), api.OK)
	tells(t, d, hot.Step{Stage: 3}, api.OK)
	gives(t, "Done", d.Done(), api.OK)
	ends(t, d, api.OK, api.OK)
	begin(t, d, true, 1)
	tells(t, d, hot.Step{Stage: 1, Fails: true}, api.OK)
}

// TestUndoingIsNotFailed: whatever is planned while it goes back, or was planned of the stages behind; it stays planned.
func TestUndoingIsNotFailed(t *testing.T) {
	d := planned(t, 6)
	begin(t, d, false, 6)
	tells(t, d, hot.Step{Stage: 6, Fails: true}, api.OK)
	for k := range 10 {
		gives(t, "Plan", d.Plan(k), api.OK)
	}
	undoes(t, d, 6)
	for k := range 10 {
		begin(t, d, false, k)
		tells(t, d, hot.Step{Stage: k, Fails: true}, api.OK)
		undoes(t, d, k)
	}
	goesThrough(t, d, false)
}

// TestUndoneIsToldAgain: till it is undone.
func TestUndoneIsToldAgain(t *testing.T) {
	d := planned(t, 2)
	begin(t, d, true, 2)
	tells(t, d, hot.Step{Stage: 2, Fails: true}, api.OK)
	for range 3 {
		tells(t, d, hot.Step{Stage: 1, Undo: true}, api.OK)
	}
	undoes(t, d, 2)
}

// TestFailsAtFirst: nothing is to be undone: it is over at once.
func TestFailsAtFirst(t *testing.T) {
	d := planned(t, 0)
	begin(t, d, false, 0)
	if d.Over() {
		t.Fatal("Over ahead of Next")
	}
	tells(t, d, hot.Step{Fails: true}, api.OK)
	undoes(t, d, 0)
}

func TestBegin(t *testing.T) {
	for _, up := range []bool{true, false} {
		for cpu := range 64 {
			for by := range 64 {
				d := &hot.Desk{}
				if cpu == by {
					gives(t, "Begin of one", d.Begin(up, cpu, by), api.ErrArg)
					holds(t, "refused", d, &plain{})
					continue
				}
				gives(t, "Begin", d.Begin(up, cpu, by), api.OK)
				holds(t, "begun", d, &plain{busy: true, up: up, cpu: cpu, by: by})
			}
		}
	}
}

// TestBeginOfNoCore: as either of the two, of both, and where they are one: that they are no cores goes ahead.
func TestBeginOfNoCore(t *testing.T) {
	d := &hot.Desk{}
	for _, up := range []bool{true, false} {
		for _, no := range noCores {
			for _, two := range [][2]int{{no, 0}, {0, no}, {63, no}, {no, 63}, {no, no}, {no, -1}, {64, no}} {
				gives(t, "Begin of no core", d.Begin(up, two[0], two[1]), api.ErrRange)
				holds(t, "refused", d, &plain{})
			}
		}
	}
}

// TestBeginTwice: it is busy, whatever is asked, from the beginning till the end.
func TestBeginTwice(t *testing.T) {
	for done := range 5 {
		d := &hot.Desk{}
		begin(t, d, true, done)
		for _, two := range [][2]int{{3, 1}, {1, 3}, {0, 63}, {5, 5}, {64, 0}, {0, -1}, {-1, -1}} {
			gives(t, "Begin of a busy one", d.Begin(false, two[0], two[1]), api.ErrBusy)
			holds(t, "busy", d, &plain{busy: true, up: true, cpu: 3, by: 1, done: done})
		}
		if done < 4 {
			tells(t, d, hot.Step{Stage: done}, api.OK)
		}
	}
}

func TestEndAheadOfTheEnd(t *testing.T) {
	for _, up := range []bool{true, false} {
		for done := range many(up) {
			d := &hot.Desk{}
			begin(t, d, up, done)
			ends(t, d, api.OK, api.ErrState)
			tells(t, d, hot.Step{Stage: done}, api.OK)
			ends(t, d, api.OK, api.ErrState)
			holds(t, "refused", d, &plain{busy: true, up: up, cpu: 3, by: 1, done: done})
		}
	}
}

func TestEndTwice(t *testing.T) {
	d := &hot.Desk{}
	goesThrough(t, d, true)
	ends(t, d, api.OK, api.ErrEmpty)
	tells(t, d, hot.Step{}, api.ErrEmpty)
	gives(t, "Done", d.Done(), api.ErrEmpty)
	goesThrough(t, d, false)
}

func TestDesksShareNothing(t *testing.T) {
	a, b := planned(t, 0), &hot.Desk{}
	begin(t, b, true, 1)
	holds(t, "the one", a, &plain{})
	begin(t, a, false, 0)
	tells(t, a, hot.Step{Fails: true}, api.OK)
	holds(t, "the other", b, &plain{busy: true, up: true, cpu: 3, by: 1, done: 1})
	tells(t, b, hot.Step{Stage: 1}, api.OK)
}

func TestNil(t *testing.T) {
	var d *hot.Desk
	for _, n := range []int{-1, 0, 1, 9, 10, 64} {
		gives(t, "Plan", d.Plan(n), api.ErrNil)
		gives(t, "Begin", d.Begin(true, n, 1), api.ErrNil)
		gives(t, "Begin", d.Begin(false, 1, n), api.ErrNil)
	}
	tells(t, d, hot.Step{}, api.ErrNil)
	gives(t, "Done", d.Done(), api.ErrNil)
	ends(t, d, api.OK, api.ErrNil)
	holds(t, "nil", d, &plain{})
}

func TestMixedRuns(t *testing.T) {
	state := uint64(22)
	pick := func(n int) int {
		state = state*6364136223846793005 + 1442695040888963407
		return int(state>>33) % n
	}
	for range 400 {
		d, p := &hot.Desk{}, &plain{}
		odds := 8 + pick(60)
		for range 300 {
			switch n := pick(odds); {
			case n == 0:
				stage := pick(13) - 1
				gives(t, "Plan", d.Plan(stage), p.plan(stage))
			case n == 1:
				want, wantWhy := p.end()
				ends(t, d, want, wantWhy)
			case n < 4:
				up, cpu, by := pick(2) == 0, pick(67)-1, pick(67)-1
				gives(t, "Begin", d.Begin(up, cpu, by), p.begin(up, cpu, by))
			case n%2 == 0:
				want, wantWhy := p.next()
				tells(t, d, want, wantWhy)
			default:
				gives(t, "Done", d.Done(), p.finish())
			}
			holds(t, "mixed", d, p)
		}
	}
}
