package core_test

import (
	"math"
	"testing"

	"davit/api"
	"davit/core"
)

// noCores are numbers that are no cores of any table.
var noCores = []int{math.MinInt, -1 << 32, -64, -2, -1, 64, 65, 128, 1 << 32, 1<<32 - 1, 1<<32 + 1, math.MaxInt}

// noTicks are numbers that are no ticks.
var noTicks = []int64{math.MinInt64, -1 << 60, -1 << 32, -1, api.MaxTick + 1, 1 << 61, 1 << 62, math.MaxInt64}

// noWays are numbers that are no ways to rest.
var noWays = []int{math.MinInt, -1 << 32, -8, -1, 8, 9, 16, 1 << 32, 1<<32 + 3, math.MaxInt}

// picks makes numbers by a fixed rule.
func picks(state uint64) func(n int) int {
	return func(n int) int {
		state = state*6364136223846793005 + 1442695040888963407
		return int(state>>33) % n
	}
}

// gives holds what a call answered against what it must.
func gives(t *testing.T, what string, why, want api.Errno) {
	t.Helper()
	if why != want {
		t.Fatalf("%s = %d, want %d", what, why, want)
	}
}

// table is a table of so many cores.
func table(t *testing.T, cpus int) *core.Table {
	t.Helper()
	x, why := core.New(cpus)
	if why != api.OK || x == nil {
		t.Fatalf("New(%d) = %v, %d", cpus, x, why)
	}
	return x
}

// is holds a core against what it must be.
func is(t *testing.T, x *core.Table, cpu int, want core.Core) {
	t.Helper()
	if c, why := x.Get(cpu); c != want || why != api.OK {
		t.Fatalf("Get(%d) = %+v, %d, want %+v", cpu, c, why, want)
	}
}

// flags are those whose bits are set in n.
func flags(n int) core.Flags {
	bit := func(at int) bool { return n>>at&1 == 1 }
	return core.Flags{Stop: bit(0), Held: bit(1), Hot: bit(2), Active: bit(3), Call: bit(4), Irq: bit(5), Timer: bit(6), Work: bit(7), Thread: bit(8)}
}

// plainWant is what a core wants, sentence by sentence.
func plainWant(f core.Flags) int {
	if f.Stop {
		return 2
	}
	if f.Hot {
		return 3
	}
	if f.Held {
		return 0
	}
	if !f.Active {
		return 0
	}
	for at, waits := range []bool{f.Call, f.Irq, f.Timer, f.Work, f.Thread} {
		if waits {
			return 4 + at
		}
	}
	return 9
}

func TestNumbersOfWhatACoreDoes(t *testing.T) {
	for want, got := range []int{core.Nothing, core.Wake, core.Ack, core.Hot, core.Call, core.Irq, core.Timer, core.Work, core.Run, core.Rest} {
		if got != want {
			t.Errorf("a thing is %d, want %d", got, want)
		}
	}
}

// P27.1, P27.4: all flags, of all cores.
func TestNext(t *testing.T) {
	for n := range 512 {
		f := flags(n)
		want := plainWant(f)
		for _, rest := range []core.Core{{}, {Way: 3, Since: 5, Steps: 7, Busy: 2}, {Way: 7, Since: api.MaxTick, Steps: math.MaxInt64, Busy: math.MaxInt64}, {Way: -1, Since: -1, Steps: -1, Busy: -1}} {
			c := rest
			if got := core.Next(c, f); got != core.Nothing {
				t.Fatalf("without power, of %+v: %d", f, got)
			}
			c.Idle = true
			if got := core.Next(c, f); got != core.Nothing {
				t.Fatalf("without power, resting, of %+v: %d", f, got)
			}
			c.Power = true
			resting := core.Wake
			if want == core.Nothing || want == core.Rest {
				resting = core.Nothing
			}
			if got := core.Next(c, f); got != resting {
				t.Fatalf("resting, of %+v: %d, want %d", f, got, resting)
			}
			c.Idle = false
			got := core.Next(c, f)
			if got != want {
				t.Fatalf("of %+v: %d, want %d", f, got, want)
			}
			if !f.Active && got != core.Nothing && got != core.Ack && got != core.Hot {
				t.Fatalf("not active, of %+v: %d", f, got)
			}
		}
	}
}

// What stands ahead goes ahead, one by one; and what is Held does nothing but a request that is its.
func TestNextInOrder(t *testing.T) {
	on := core.Core{Power: true}
	f := core.Flags{Stop: true, Hot: true, Active: true, Call: true, Irq: true, Timer: true, Work: true, Thread: true}
	next := func(what int) {
		t.Helper()
		if got := core.Next(on, f); got != what {
			t.Fatalf("of %+v: %d, want %d", f, got, what)
		}
	}
	next(core.Ack)
	f.Stop, f.Held = false, true
	next(core.Hot)
	f.Hot = false
	next(core.Nothing)
	f.Held, f.Active = false, false
	next(core.Nothing)
	f.Active = true
	next(core.Call)
	f.Call = false
	next(core.Irq)
	f.Irq = false
	next(core.Timer)
	f.Timer = false
	next(core.Work)
	f.Work = false
	next(core.Run)
	f.Thread = false
	next(core.Rest)
}

// Example 1: a core that rests, with a call: Wake; then Call.
func TestExample(t *testing.T) {
	x := table(t, 1)
	gives(t, "Rest", x.Rest(0, 0, 0), api.OK)
	f := core.Flags{Active: true, Call: true}
	c, _ := x.Get(0)
	if got := core.Next(c, f); got != core.Wake {
		t.Fatal("Next", got)
	}
	x.Wake(0, 0)
	c, _ = x.Get(0)
	if got := core.Next(c, f); got != core.Call {
		t.Fatal("Next", got)
	}
}

func TestNew(t *testing.T) {
	for _, cpus := range append([]int{0}, append(noCores, -63, 1<<31)...) {
		want := api.ErrArg
		if cpus == 64 {
			want = api.OK
		}
		x, why := core.New(cpus)
		if why != want || (x == nil) != (why != api.OK) {
			t.Fatalf("New(%d) = %v, %d", cpus, x, why)
		}
	}
	for _, cpus := range []int{1, 2, 3, 63, 64} {
		x := table(t, cpus)
		for cpu := range cpus {
			is(t, x, cpu, core.Core{Power: true})
		}
		if c, why := x.Get(cpus); c != (core.Core{}) || why != api.ErrRange {
			t.Fatalf("of %d cores Get(%d) = %+v, %d", cpus, cpus, c, why)
		}
	}
}

// refusals is what the calls of a table answer of a core that there is not, at good and at bad arguments.
func refusals(t *testing.T, x *core.Table, cpu int, want api.Errno) {
	t.Helper()
	gives(t, "Power", x.Power(cpu, true), want)
	gives(t, "Power", x.Power(cpu, false), want)
	gives(t, "Rest", x.Rest(cpu, 0, 0), want)
	gives(t, "Rest", x.Rest(cpu, 8, -1), want)
	gives(t, "Count", x.Count(cpu, true), want)
	gives(t, "Count", x.Count(cpu, false), want)
	for _, now := range []int64{0, 5, -1, api.MaxTick + 1} {
		if n, why := x.Wake(cpu, now); n != 0 || why != want {
			t.Fatalf("Wake(%d, %d) = %d, %d", cpu, now, n, why)
		}
	}
	if busy, steps, why := x.Take(cpu); busy != 0 || steps != 0 || why != want {
		t.Fatalf("Take(%d) = %d, %d, %d", cpu, busy, steps, why)
	}
	if c, why := x.Get(cpu); c != (core.Core{}) || why != want {
		t.Fatalf("Get(%d) = %+v, %d", cpu, c, why)
	}
}

func TestNoCore(t *testing.T) {
	x := table(t, 2)
	x.Count(1, true)
	for _, cpu := range append([]int{2, 3, 63}, noCores...) {
		refusals(t, x, cpu, api.ErrRange)
	}
	is(t, x, 0, core.Core{Power: true})
	is(t, x, 1, core.Core{Power: true, Steps: 1, Busy: 1})
}

func TestNilTable(t *testing.T) {
	var x *core.Table
	for _, cpu := range append([]int{0, 1, 63}, noCores...) {
		refusals(t, x, cpu, api.ErrNil)
	}
}

// A table that New did not make has no core.
func TestZeroTable(t *testing.T) {
	x := &core.Table{}
	for _, cpu := range append([]int{0, 1, 63}, noCores...) {
		refusals(t, x, cpu, api.ErrRange)
	}
}

func TestPower(t *testing.T) {
	x := table(t, 2)
	gives(t, "Power on", x.Power(0, true), api.ErrState)
	gives(t, "Rest", x.Rest(0, 3, 8), api.OK)
	gives(t, "Power on", x.Power(0, true), api.ErrState)
	x.Count(0, true)
	is(t, x, 0, core.Core{Power: true, Idle: true, Way: 3, Since: 8, Steps: 1, Busy: 1})
	gives(t, "Power off", x.Power(0, false), api.OK)
	is(t, x, 0, core.Core{Steps: 1, Busy: 1})
	gives(t, "Power off", x.Power(0, false), api.ErrState)
	gives(t, "Rest", x.Rest(0, 3, 8), api.ErrState)
	if _, why := x.Wake(0, 9); why != api.ErrState {
		t.Fatal("Wake", why)
	}
	// Steps are counted without power, too.
	gives(t, "Count", x.Count(0, false), api.OK)
	is(t, x, 0, core.Core{Steps: 2, Busy: 1})
	gives(t, "Power on", x.Power(0, true), api.OK)
	is(t, x, 0, core.Core{Power: true, Steps: 2, Busy: 1})
	is(t, x, 1, core.Core{Power: true})
}

func TestRest(t *testing.T) {
	for way := range 8 {
		for _, now := range []int64{0, 1, 1 << 31, 1 << 33, api.MaxTick - 1, api.MaxTick} {
			x := table(t, 1)
			gives(t, "Rest", x.Rest(0, way, now), api.OK)
			is(t, x, 0, core.Core{Power: true, Idle: true, Way: way, Since: now})
			gives(t, "Rest", x.Rest(0, 0, 0), api.ErrState)
			is(t, x, 0, core.Core{Power: true, Idle: true, Way: way, Since: now})
		}
	}
}

func TestRestRefuses(t *testing.T) {
	x := table(t, 3)
	x.Rest(1, 2, 7)
	x.Power(2, false)
	for cpu, was := range []core.Core{{Power: true}, {Power: true, Idle: true, Way: 2, Since: 7}, {}} {
		for _, way := range noWays {
			gives(t, "Rest in no way", x.Rest(cpu, way, 5), api.ErrArg)
			gives(t, "Rest in no way, at no tick", x.Rest(cpu, way, -1), api.ErrArg)
		}
		for _, now := range noTicks {
			gives(t, "Rest at no tick", x.Rest(cpu, 7, now), api.ErrArg)
		}
		is(t, x, cpu, was)
	}
	gives(t, "Rest of one that rests", x.Rest(1, 2, 7), api.ErrState)
	gives(t, "Rest of one without power", x.Rest(2, 2, 7), api.ErrState)
	is(t, x, 1, core.Core{Power: true, Idle: true, Way: 2, Since: 7})
	is(t, x, 2, core.Core{})
}

func TestWake(t *testing.T) {
	for _, c := range []struct{ since, now, want int64 }{
		{0, 0, 0}, {5, 5, 0}, {5, 6, 1}, {5, 4, 0}, {5, 0, 0}, {0, api.MaxTick, api.MaxTick}, {api.MaxTick, 0, 0}, {1, api.MaxTick, api.MaxTick - 1}, {1 << 32, 1<<33 + 1, 1<<32 + 1},
	} {
		x := table(t, 2)
		x.Rest(0, 6, c.since)
		x.Count(0, true)
		if n, why := x.Wake(0, c.now); n != c.want || why != api.OK {
			t.Fatalf("since %d Wake at %d = %d, %d, want %d", c.since, c.now, n, why, c.want)
		}
		is(t, x, 0, core.Core{Power: true, Steps: 1, Busy: 1})
		is(t, x, 1, core.Core{Power: true})
	}
}

func TestWakeRefuses(t *testing.T) {
	x := table(t, 3)
	x.Rest(1, 2, 7)
	x.Power(2, false)
	for cpu, was := range []core.Core{{Power: true}, {Power: true, Idle: true, Way: 2, Since: 7}, {}} {
		for _, now := range noTicks {
			if n, why := x.Wake(cpu, now); n != 0 || why != api.ErrArg {
				t.Fatalf("Wake(%d, %d) = %d, %d", cpu, now, n, why)
			}
		}
		if cpu != 1 {
			if n, why := x.Wake(cpu, 9); n != 0 || why != api.ErrState {
				t.Fatalf("Wake(%d) = %d, %d", cpu, n, why)
			}
		}
		is(t, x, cpu, was)
	}
}

func TestCountAndTake(t *testing.T) {
	x := table(t, 2)
	for range 3 {
		gives(t, "Count", x.Count(1, true), api.OK)
	}
	for range 5 {
		gives(t, "Count", x.Count(1, false), api.OK)
	}
	is(t, x, 1, core.Core{Power: true, Steps: 8, Busy: 3})
	is(t, x, 0, core.Core{Power: true})
	x.Rest(1, 4, 3)
	if busy, steps, why := x.Take(1); busy != 3 || steps != 8 || why != api.OK {
		t.Fatal("Take", busy, steps, why)
	}
	is(t, x, 1, core.Core{Power: true, Idle: true, Way: 4, Since: 3})
	if busy, steps, why := x.Take(1); busy != 0 || steps != 0 || why != api.OK {
		t.Fatal("Take", busy, steps, why)
	}
}

func TestTablesShareNothing(t *testing.T) {
	x, y := table(t, 2), table(t, 2)
	x.Rest(0, 1, 1)
	x.Count(1, true)
	is(t, y, 0, core.Core{Power: true})
	is(t, y, 1, core.Core{Power: true})
	c, _ := x.Get(0)
	c.Idle = false
	is(t, x, 0, core.Core{Power: true, Idle: true, Way: 1, Since: 1})
}

// plainCall does a call of any kind to a table, and to a core that is kept beside it as the chapter says.
func plainCall(t *testing.T, x *core.Table, cpu int, c *core.Core, pick func(n int) int) {
	t.Helper()
	way, now := pick(10)-1, int64(pick(30)-2)
	bad := now < 0
	switch pick(6) {
	case 0:
		on := pick(2) == 0
		want := api.ErrState
		if c.Power != on {
			want, *c = api.OK, core.Core{Power: on, Steps: c.Steps, Busy: c.Busy}
		}
		gives(t, "Power", x.Power(cpu, on), want)
	case 1:
		want := api.ErrState
		if bad || way < 0 || way > 7 {
			want = api.ErrArg
		} else if c.Power && !c.Idle {
			want = api.OK
			c.Idle, c.Way, c.Since = true, way, now
		}
		gives(t, "Rest", x.Rest(cpu, way, now), want)
	case 2:
		want, rested := api.ErrState, int64(0)
		if bad {
			want = api.ErrArg
		} else if c.Idle {
			want = api.OK
			if now > c.Since {
				rested = now - c.Since
			}
			c.Idle, c.Way, c.Since = false, 0, 0
		}
		if n, why := x.Wake(cpu, now); n != rested || why != want {
			t.Fatalf("Wake = %d, %d, want %d, %d", n, why, rested, want)
		}
	case 3:
		if pick(8) == 0 {
			if busy, steps, why := x.Take(cpu); busy != c.Busy || steps != c.Steps || why != api.OK {
				t.Fatalf("Take = %d, %d, %d, want %d, %d", busy, steps, why, c.Busy, c.Steps)
			}
			c.Busy, c.Steps = 0, 0
		}
	default:
		busy := pick(2) == 0
		c.Steps++
		if busy {
			c.Busy++
		}
		gives(t, "Count", x.Count(cpu, busy), api.OK)
	}
}

func TestMixed(t *testing.T) {
	pick := picks(27)
	for _, cpus := range []int{1, 2, 5, 64} {
		x := table(t, cpus)
		plain := make([]core.Core, cpus)
		for cpu := range plain {
			plain[cpu].Power = true
		}
		for range 4000 {
			cpu := pick(cpus)
			plainCall(t, x, cpu, &plain[cpu], pick)
			for cpu := range plain {
				is(t, x, cpu, plain[cpu])
			}
		}
	}
}
