package kernel_test

import (
	"math"
	"slices"
	"testing"

	"davit/api"
	"davit/irq"
	"davit/kernel"
	"davit/mask"
)

// noCores are numbers that are no cores at all.
var noCores = []int{math.MinInt, -1 << 32, -64, -2, 64, 65, 128, 1 << 32, 1<<32 - 1, 1<<32 + 1, math.MaxInt}

// noDelays are numbers that no clock goes on by.
var noDelays = []int64{math.MinInt64, -1 << 60, -1 << 32, -1, api.MaxDelay + 1, 1 << 31, 1 << 32, api.MaxTick, math.MaxInt64}

// picks makes numbers by a fixed rule.
func picks(state uint64) func(n int) int {
	return func(n int) int {
		state = state*6364136223846793005 + 1442695040888963407
		return int(state>>33) % n
	}
}

// both is a kernel, and a plain one that does the same events.
type both struct {
	*testing.T
	k *kernel.Kernel
	p *plain
}

func newBoth(t *testing.T, cpus int) *both {
	t.Helper()
	k, why := kernel.New(cpus)
	if why != api.OK || k == nil {
		t.Fatalf("New(%d) = %v, %d", cpus, k, why)
	}
	b := &both{t, k, newPlain(cpus)}
	same(t, b.k, b.p)
	return b
}

// run does an event, and holds its records, and all that is there then, against the plain one's.
func (b *both) run(e api.Ev) []api.Rec {
	b.Helper()
	got, told := b.k.Do(e), b.p.do(e)
	if !slices.Equal(got, told) {
		b.Fatalf("Do(%+v) = %+v, the plain one's %+v", e, got, told)
	}
	same(b.T, b.k, b.p)
	return got
}

// do does an event whose records must be these.
func (b *both) do(e api.Ev, want ...api.Rec) {
	b.Helper()
	if got := b.run(e); !slices.Equal(got, want) {
		b.Fatalf("Do(%+v) = %+v, want %+v", e, got, want)
	}
}

// ok does an event that is answered OK, with an Id.
func (b *both) ok(e api.Ev, id int) {
	b.Helper()
	b.do(e, api.Rec{Kind: api.RecRet, Id: id})
}

// no does an event that is refused.
func (b *both) no(e api.Ev, why api.Errno) {
	b.Helper()
	b.do(e, api.Rec{Kind: api.RecRet, Why: why})
}

// step lets a core take a step.
func (b *both) step(cpu int, want ...api.Rec) {
	b.Helper()
	b.do(api.Ev{Kind: api.EvStep, Cpu: cpu}, want...)
}

// did is the record of a thing that a core did.
func did(kind, cpu, id int) api.Rec {
	return api.Rec{Kind: kind, Cpu: cpu, Id: id}
}

func (b *both) spawn(prio int, m uint64, id int) {
	b.Helper()
	b.ok(api.Ev{Kind: api.EvSpawn, Id: prio, Mask: m}, id)
}

// where says on which core a thread is, and whether it is forced to it.
func (b *both) where(id, cpu int, forced bool) {
	b.Helper()
	b.ok(api.Ev{Kind: api.EvWhere, Id: id}, cpu)
	if one, _ := b.k.Threads().Get(id); one.Forced != forced {
		b.Fatalf("thread %d: forced %v", id, one.Forced)
	}
}

// queue says what is in a core's queue.
func (b *both) queue(cpu int, want ...int) {
	b.Helper()
	if got := b.k.Queues().List(cpu); !slices.Equal(got, want) {
		b.Fatalf("queue of %d: %v, want %v", cpu, got, want)
	}
}

// leave lets a core go.
func (b *both) leave(cpu int) {
	b.Helper()
	b.ok(api.Ev{Kind: api.EvOffline, Cpu: cpu}, 0)
	b.finish(cpu, api.OK)
}

// come lets a core come.
func (b *both) come(cpu int) {
	b.Helper()
	b.ok(api.Ev{Kind: api.EvOnline, Cpu: cpu}, 0)
	b.finish(cpu, api.OK)
}

// finish lets cores take steps till the request is over: the one by whose steps it is, and those that must stand still.
func (b *both) finish(cpu int, why api.Errno) {
	b.Helper()
	by := b.k.Desk().By()
	for range 500 {
		for _, other := range b.k.Stop().Left().List() {
			b.step(other)
		}
		got := b.run(api.Ev{Kind: api.EvStep, Cpu: by})
		if len(got) == 0 {
			continue
		}
		if want := (api.Rec{Kind: api.RecHot, Cpu: cpu, Why: why}); got[0] != want {
			b.Fatalf("the request returns %v, want %v", got, want)
		}
		return
	}
	b.Fatal("the request does not return")
}

// gone says that nothing is on a core any more.
func gone(t *testing.T, k *kernel.Kernel, cpu int) {
	t.Helper()
	many := k.Queues().Load(cpu) + k.Timers().Load(cpu) + k.Works().Load(cpu) + k.Calls().Load(cpu) + len(k.Objects().Kept(cpu)) + len(k.Route().On(cpu))
	c, _ := k.Cores().Get(cpu)
	if many != 0 || c.Power || k.Online().Has(cpu) || k.Active().Has(cpu) {
		t.Fatalf("core %d has gone, but has %d things, power %v", cpu, many, c.Power)
	}
}

func TestNew(t *testing.T) {
	for _, cpus := range append([]int{0, -1, -63, 1 << 31}, noCores...) {
		k, why := kernel.New(cpus)
		want := api.ErrArg
		if cpus == 64 {
			want = api.OK
		}
		if why != want || (k == nil) != (why != api.OK) {
			t.Fatalf("New(%d) = %v, %d", cpus, k, why)
		}
	}
	for cpus := 1; cpus <= 64; cpus++ {
		b := newBoth(t, cpus)
		if b.k.Online() != mask.Upto(cpus) || b.k.Active() != mask.Upto(cpus) || b.k.Objects().Free() != 96 {
			t.Fatal("a new kernel", cpus, b.k.Online(), b.k.Active(), b.k.Objects().Free())
		}
		for _, cpu := range append([]int{-1, cpus}, noCores...) {
			if !b.k.Active().Has(cpu) && b.k.Gov(cpu) != nil {
				t.Fatalf("of %d cores Gov(%d) is there", cpus, cpu)
			}
		}
	}
	if kernel.Pages != 12 {
		t.Error("Pages", kernel.Pages)
	}
}

// anyKinds are all kinds of events, and numbers that are none.
func anyKinds() []int {
	list := []int{math.MinInt, -1 << 32, -1, 31, 32, 255, 256, 1 << 32, 1<<32 + 1, math.MaxInt}
	for kind := range 31 {
		list = append(list, kind)
	}
	return list
}

func TestNilKernel(t *testing.T) {
	var k *kernel.Kernel
	for _, kind := range anyKinds() {
		if l := k.Do(api.Ev{Kind: kind, Id: 1, Mask: 1, N: 1}); len(l) != 0 {
			t.Fatalf("of nil Do of %d = %v", kind, l)
		}
	}
	if k.Cpus() != 0 || k.Online() != 0 || k.Active() != 0 || k.Now() != 0 || k.Owner(0) != 0 || k.Owner(1) != 0 {
		t.Error("of nil a number")
	}
	if k.Threads() != nil || k.Queues() != nil || k.Timers() != nil || k.Irqs() != nil || k.Route() != nil || k.Works() != nil || k.Calls() != nil || k.Objects() != nil {
		t.Error("of nil a part")
	}
	if k.Counts() != nil || k.Desk() != nil || k.Gate() != nil || k.Stop() != nil || k.Cores() != nil || k.Meter() != nil || k.Gov(0) != nil || k.Gov(-1) != nil || k.Gov(64) != nil {
		t.Error("of nil a part")
	}
}

// A kernel that New did not make has no cores; no event makes it panic.
func TestZeroKernel(t *testing.T) {
	k := &kernel.Kernel{}
	for _, kind := range anyKinds() {
		for cpu := -1; cpu <= 1; cpu++ {
			if l := k.Do(api.Ev{Kind: kind, Cpu: cpu, Id: 1, Mask: 1, N: 1}); len(l) != 1 || l[0].Kind != api.RecRet {
				t.Fatalf("Do of %d = %v", kind, l)
			}
		}
	}
	if k.Cpus() != 0 || k.Online() != 0 || k.Active() != 0 || k.Now() != 0 || k.Owner(1) != 0 || k.Gov(0) != nil {
		t.Error("a kernel without cores")
	}
}

// Of any other kind ErrArg, whatever else is there.
func TestNoKind(t *testing.T) {
	b := newBoth(t, 2)
	for _, kind := range anyKinds() {
		if kind < 1 || kind > 30 {
			b.no(api.Ev{Kind: kind, Cpu: 1, Id: 1, Mask: 1, N: 1}, api.ErrArg)
		}
	}
}

// Events of a core: ErrRange of none, ErrOffline of one that is not active, ahead of all other errors.
func TestOfCpu(t *testing.T) {
	b := newBoth(t, 3)
	b.leave(1)
	events := []api.Ev{{Kind: api.EvArm, N: -1}, {Kind: api.EvArm, N: 1}, {Kind: api.EvQueue}, {Kind: api.EvCall}, {Kind: api.EvAlloc}, {Kind: api.EvGive, Id: 97}, {Kind: api.EvHold}}
	for _, e := range events {
		for _, cpu := range append([]int{3, 63}, noCores...) {
			e.Cpu = cpu
			b.no(e, api.ErrRange)
		}
		e.Cpu = 1
		b.no(e, api.ErrOffline)
	}
	for _, e := range events[:1] {
		e.Cpu = -1
		b.no(e, api.ErrRange)
	}
	for _, kind := range []int{api.EvCall, api.EvAlloc, api.EvGive, api.EvHold, api.EvDrop, api.EvOnline, api.EvOffline, api.EvStep} {
		b.no(api.Ev{Kind: kind, Cpu: -1}, api.ErrRange)
	}
	for _, kind := range []int{api.EvDrop, api.EvOnline, api.EvOffline, api.EvStep} {
		for _, cpu := range append([]int{3, 63}, noCores...) {
			b.no(api.Ev{Kind: kind, Cpu: cpu}, api.ErrRange)
		}
	}
	// One that is not active is a core all the same: it has no reader.
	b.no(api.Ev{Kind: api.EvDrop, Cpu: 1}, api.ErrEmpty)
	b.step(1)
}

// Example 1, and the first one of the whole.
func TestExample(t *testing.T) {
	b := newBoth(t, 2)
	b.spawn(0, 1, 1)
	b.step(0, did(api.RecRun, 0, 1))
	b.step(1)
	b.step(1)
	b.step(0, did(api.RecRun, 0, 1))
}

func TestSpawn(t *testing.T) {
	b := newBoth(t, 3)
	for _, e := range []api.Ev{{Id: -1, Mask: 1}, {Id: 8, Mask: 1}, {Id: math.MinInt, Mask: 1}, {Id: 1 << 32, Mask: 1}, {Id: 0, Mask: 0}, {Id: 0, Mask: 8}, {Id: 0, Mask: 15}, {Id: 0, Mask: 1 << 63}, {Id: 0, Mask: math.MaxUint64}} {
		e.Kind = api.EvSpawn
		b.no(e, api.ErrArg)
	}
	// Near to the core that its number, modulo how many cores there are, is.
	for id := 1; id <= 32; id++ {
		b.spawn(id%8, 7, id)
		b.where(id, id%3, false)
	}
	b.no(api.Ev{Kind: api.EvSpawn, Mask: 7}, api.ErrFull)
	b.no(api.Ev{Kind: api.EvSpawn, Mask: 8}, api.ErrArg)
	b.ok(api.Ev{Kind: api.EvExit, Id: 7}, 0)
	b.ok(api.Ev{Kind: api.EvExit, Id: 5}, 0)
	b.spawn(0, 1, 5)
	b.where(5, 0, false)
	b.spawn(0, 6, 7)
	b.where(7, 1, false)
	b.ok(api.Ev{Kind: api.EvExit, Id: 7}, 0)
	b.spawn(0, 5, 7)
	b.where(7, 2, false)
}

// Events of a thread that there is not.
func TestNoThread(t *testing.T) {
	b := newBoth(t, 2)
	b.spawn(0, 3, 1)
	b.spawn(0, 3, 2)
	b.ok(api.Ev{Kind: api.EvExit, Id: 1}, 0)
	for _, kind := range []int{api.EvExit, api.EvYield, api.EvSleep, api.EvWake, api.EvAffin, api.EvWhere} {
		for _, id := range append([]int{-1, 0, 1, 3, 32, 33}, noCores...) {
			b.no(api.Ev{Kind: kind, Id: id, N: -1}, api.ErrNone)
			b.no(api.Ev{Kind: kind, Id: id, Mask: 1}, api.ErrNone)
		}
	}
}

func TestThreadsRun(t *testing.T) {
	b := newBoth(t, 1)
	b.spawn(1, 1, 1)
	b.spawn(2, 1, 2)
	b.spawn(2, 1, 3)
	b.spawn(2, 1, 4)
	b.step(0, did(api.RecRun, 0, 2))
	b.step(0, did(api.RecRun, 0, 3))
	b.queue(0, 4, 2, 3, 1)
	b.ok(api.Ev{Kind: api.EvYield, Id: 4}, 0)
	b.queue(0, 2, 3, 4, 1)
	b.ok(api.Ev{Kind: api.EvYield, Id: 1}, 0)
	b.step(0, did(api.RecRun, 0, 2))
	b.ok(api.Ev{Kind: api.EvExit, Id: 3}, 0)
	b.ok(api.Ev{Kind: api.EvExit, Id: 4}, 0)
	b.ok(api.Ev{Kind: api.EvExit, Id: 2}, 0)
	b.step(0, did(api.RecRun, 0, 1))
}

func TestSleep(t *testing.T) {
	b := newBoth(t, 2)
	b.spawn(3, 2, 1)
	b.ok(api.Ev{Kind: api.EvArm, Cpu: 0, N: 5}, 1)
	for _, delay := range noDelays {
		b.no(api.Ev{Kind: api.EvSleep, Id: 1, N: delay}, api.ErrArg)
	}
	b.ok(api.Ev{Kind: api.EvSleep, Id: 1, N: 9}, 2)
	if cpu, _ := b.k.Timers().Where(2); cpu != 1 || b.k.Owner(2) != 1 || b.k.Owner(1) != 0 || b.k.Owner(0) != 0 || b.k.Owner(-1) != 0 || b.k.Owner(math.MaxInt) != 0 {
		t.Fatal("the timer is on", cpu, b.k.Owner(2), b.k.Owner(1))
	}
	b.no(api.Ev{Kind: api.EvSleep, Id: 1, N: -1}, api.ErrState)
	b.no(api.Ev{Kind: api.EvYield, Id: 1}, api.ErrState)
	b.no(api.Ev{Kind: api.EvCancel, Id: 2}, api.ErrState)
	b.where(1, 1, false)
	b.step(1)
	// It is woken ahead of its timer, which is gone.
	b.ok(api.Ev{Kind: api.EvWake, Id: 1}, 0)
	b.no(api.Ev{Kind: api.EvWake, Id: 1}, api.ErrState)
	b.no(api.Ev{Kind: api.EvCancel, Id: 2}, api.ErrNone)
	b.step(1)
	b.step(1, did(api.RecRun, 1, 1))
	// It sleeps for no tick: its timer is due at once.
	b.ok(api.Ev{Kind: api.EvSleep, Id: 1, N: 0}, 2)
	b.step(1, api.Rec{Kind: api.RecFire, Cpu: 1, Id: 2, N: 1})
	b.step(1, did(api.RecRun, 1, 1))
	// It ends while it sleeps: its timer ends with it.
	b.ok(api.Ev{Kind: api.EvSleep, Id: 1, N: api.MaxDelay}, 2)
	b.ok(api.Ev{Kind: api.EvExit, Id: 1}, 0)
	if b.k.Owner(2) != 0 || b.k.Timers().Load(1) != 0 {
		t.Fatal("a timer of no thread")
	}
	b.spawn(3, 2, 1)
	b.step(1, did(api.RecRun, 1, 1))
}

func TestNoMoreTimers(t *testing.T) {
	b := newBoth(t, 2)
	b.spawn(0, 3, 1)
	for id := 1; id <= 48; id++ {
		b.ok(api.Ev{Kind: api.EvArm, Cpu: id % 2, N: int64(id)}, id)
	}
	b.no(api.Ev{Kind: api.EvArm, Cpu: 0, N: 1}, api.ErrFull)
	b.no(api.Ev{Kind: api.EvSleep, Id: 1, N: 1}, api.ErrFull)
	b.no(api.Ev{Kind: api.EvArm, Cpu: 0, N: -1}, api.ErrArg)
	b.no(api.Ev{Kind: api.EvSleep, Id: 1, N: -1}, api.ErrArg)
	b.queue(1, 1)
	b.ok(api.Ev{Kind: api.EvCancel, Id: 30}, 0)
	b.ok(api.Ev{Kind: api.EvSleep, Id: 1, N: 1}, 30)
}

func TestAffin(t *testing.T) {
	b := newBoth(t, 4)
	b.spawn(0, 15, 1)
	b.spawn(0, 2, 2)
	b.spawn(0, 2, 3)
	for _, m := range []uint64{0, 16, 31, math.MaxUint64} {
		b.no(api.Ev{Kind: api.EvAffin, Id: 1, Mask: m}, api.ErrArg)
	}
	// It is right where it is: it keeps its place in the queue.
	b.ok(api.Ev{Kind: api.EvAffin, Id: 1, Mask: 10}, 0)
	b.queue(1, 1, 2, 3)
	// It is not: it goes to the next core that will do.
	b.ok(api.Ev{Kind: api.EvAffin, Id: 1, Mask: 9}, 0)
	b.where(1, 3, false)
	b.queue(1, 2, 3)
	b.queue(3, 1)
	b.ok(api.Ev{Kind: api.EvAffin, Id: 1, Mask: 6}, 0)
	b.where(1, 1, false)
	b.queue(1, 2, 3, 1)
	// One that sleeps stays there till it wakes.
	b.ok(api.Ev{Kind: api.EvSleep, Id: 2, N: 3}, 1)
	b.ok(api.Ev{Kind: api.EvAffin, Id: 2, Mask: 1}, 0)
	b.where(2, 1, false)
	b.ok(api.Ev{Kind: api.EvWake, Id: 2}, 0)
	b.where(2, 0, false)
	// Forced where it is, and then wanted there: it goes behind the others, and is forced no more.
	b.leave(3)
	b.ok(api.Ev{Kind: api.EvAffin, Id: 3, Mask: 8}, 0)
	b.where(3, 1, true)
	b.queue(1, 1, 3)
	b.ok(api.Ev{Kind: api.EvAffin, Id: 1, Mask: 8}, 0)
	b.queue(1, 3, 1)
	b.ok(api.Ev{Kind: api.EvAffin, Id: 3, Mask: 2}, 0)
	b.where(3, 1, false)
	b.queue(1, 1, 3)
}

func TestTimers(t *testing.T) {
	b := newBoth(t, 2)
	for _, delay := range noDelays {
		b.no(api.Ev{Kind: api.EvArm, Cpu: 1, N: delay}, api.ErrArg)
		b.no(api.Ev{Kind: api.EvTick, N: delay}, api.ErrArg)
	}
	b.ok(api.Ev{Kind: api.EvTick, N: 7}, 0)
	b.ok(api.Ev{Kind: api.EvArm, Cpu: 1, N: 5}, 1)
	b.ok(api.Ev{Kind: api.EvArm, Cpu: 1, N: 4}, 2)
	b.ok(api.Ev{Kind: api.EvArm, Cpu: 1, N: 4}, 3)
	b.ok(api.Ev{Kind: api.EvArm, Cpu: 0, N: api.MaxDelay}, 4)
	b.step(1)
	b.ok(api.Ev{Kind: api.EvTick, N: 3}, 0)
	b.step(1)
	b.ok(api.Ev{Kind: api.EvTick, N: 0}, 0)
	b.step(1)
	b.ok(api.Ev{Kind: api.EvTick, N: 1}, 0)
	// It rests: it wakes first.
	b.step(1)
	b.step(1, did(api.RecFire, 1, 2))
	b.ok(api.Ev{Kind: api.EvTick, N: 1}, 0)
	b.ok(api.Ev{Kind: api.EvCancel, Id: 3}, 0)
	b.no(api.Ev{Kind: api.EvCancel, Id: 3}, api.ErrNone)
	b.step(1, did(api.RecFire, 1, 1))
	b.step(1)
	for _, id := range append([]int{-1, 0, 1, 5, 48, 49}, noCores...) {
		b.no(api.Ev{Kind: api.EvCancel, Id: id}, api.ErrNone)
	}
	b.ok(api.Ev{Kind: api.EvTick, N: api.MaxDelay}, 0)
	b.step(0, did(api.RecFire, 0, 4))
}

func TestIrqs(t *testing.T) {
	b := newBoth(t, 3)
	kinds := []int{api.EvRequest, api.EvFree, api.EvRoute, api.EvMask, api.EvUnmask, api.EvRaise}
	for _, kind := range kinds {
		for _, n := range append([]int{-1, 16, 17}, noCores...) {
			b.no(api.Ev{Kind: kind, Id: n}, api.ErrRange)
		}
	}
	for _, kind := range kinds[1:] {
		for n := range 16 {
			b.no(api.Ev{Kind: kind, Id: n}, api.ErrNone)
		}
	}
	for _, m := range []uint64{0, 8, 15, math.MaxUint64} {
		b.no(api.Ev{Kind: api.EvRequest, Id: 5, Mask: m}, api.ErrArg)
	}
	// Near to the core that its number, modulo how many cores there are, is.
	for n := range 16 {
		b.ok(api.Ev{Kind: api.EvRequest, Id: n, Mask: 7}, 0)
		if cpu, there := b.k.Route().Of(n); cpu != n%3 || !there {
			t.Fatalf("interrupt %d goes to %d, %v", n, cpu, there)
		}
	}
	b.no(api.Ev{Kind: api.EvRequest, Id: 5, Mask: 8}, api.ErrState)
	b.no(api.Ev{Kind: api.EvUnmask, Id: 5}, api.ErrState)
	b.ok(api.Ev{Kind: api.EvMask, Id: 5}, 0)
	b.no(api.Ev{Kind: api.EvMask, Id: 5}, api.ErrState)
	// What is raised while it is masked is handled once, when it is not any more; the lowest one first.
	b.ok(api.Ev{Kind: api.EvRaise, Id: 5}, 0)
	b.ok(api.Ev{Kind: api.EvRaise, Id: 5}, 0)
	b.ok(api.Ev{Kind: api.EvRaise, Id: 11}, 0)
	b.step(2, did(api.RecHandle, 2, 11))
	b.step(2)
	b.ok(api.Ev{Kind: api.EvRaise, Id: 8}, 0)
	b.ok(api.Ev{Kind: api.EvUnmask, Id: 5}, 0)
	b.step(2)
	b.step(2, did(api.RecHandle, 2, 5))
	b.step(2, did(api.RecHandle, 2, 8))
	b.step(2)
	b.step(2)
	// It has no route when it is free.
	b.ok(api.Ev{Kind: api.EvRaise, Id: 5}, 0)
	b.ok(api.Ev{Kind: api.EvFree, Id: 5}, 0)
	if _, there := b.k.Route().Of(5); there {
		t.Fatal("a route of what is free")
	}
	b.step(2)
	b.ok(api.Ev{Kind: api.EvRequest, Id: 5, Mask: 3}, 0)
	if cpu, _ := b.k.Route().Of(5); cpu != 0 {
		t.Fatal("interrupt 5 goes to", cpu)
	}
	b.step(0)
	if one, _ := b.k.Irqs().Get(5); one != (irq.Irq{Wanted: true, Mask: 3}) {
		t.Fatalf("interrupt 5 is %+v", one)
	}
}

func TestRoute(t *testing.T) {
	b := newBoth(t, 4)
	on := func(cpu int) {
		t.Helper()
		if got, there := b.k.Route().Of(2); got != cpu || !there {
			t.Fatalf("interrupt 2 goes to %d, %v, want %d", got, there, cpu)
		}
	}
	b.ok(api.Ev{Kind: api.EvRequest, Id: 2, Mask: 12}, 0)
	on(2)
	for _, m := range []uint64{0, 16, math.MaxUint64} {
		b.no(api.Ev{Kind: api.EvRoute, Id: 2, Mask: m}, api.ErrArg)
	}
	b.ok(api.Ev{Kind: api.EvRoute, Id: 2, Mask: 15}, 0)
	on(2)
	b.ok(api.Ev{Kind: api.EvRoute, Id: 2, Mask: 3}, 0)
	on(0)
	b.ok(api.Ev{Kind: api.EvRoute, Id: 2, Mask: 10}, 0)
	on(1)
	// None of its cores is active: it stays; when it is for this core, too, it does as well.
	b.leave(3)
	b.ok(api.Ev{Kind: api.EvRoute, Id: 2, Mask: 8}, 0)
	on(1)
	b.ok(api.Ev{Kind: api.EvRaise, Id: 2}, 0)
	b.ok(api.Ev{Kind: api.EvRoute, Id: 2, Mask: 10}, 0)
	on(1)
	b.ok(api.Ev{Kind: api.EvRoute, Id: 2, Mask: 8}, 0)
	b.come(3)
	on(3)
	b.step(3, did(api.RecHandle, 3, 2))
}

func TestWorks(t *testing.T) {
	b := newBoth(t, 2)
	b.ok(api.Ev{Kind: api.EvQueue, Cpu: -1}, 1)
	b.ok(api.Ev{Kind: api.EvQueue, Cpu: 1}, 2)
	b.ok(api.Ev{Kind: api.EvQueue, Cpu: 1}, 3)
	for _, id := range append([]int{-1, 0, 33}, noCores...) {
		b.no(api.Ev{Kind: api.EvFlush, Id: id}, api.ErrArg)
	}
	b.ok(api.Ev{Kind: api.EvFlush, Id: 1}, 1)
	b.ok(api.Ev{Kind: api.EvFlush, Id: 32}, 0)
	b.step(1, did(api.RecWork, 1, 2))
	b.ok(api.Ev{Kind: api.EvFlush, Id: 2}, 0)
	b.step(1, did(api.RecWork, 1, 3))
	b.step(0, did(api.RecWork, 0, 1))
	b.step(1)
	b.step(0)
	for id := 1; id <= 32; id++ {
		b.ok(api.Ev{Kind: api.EvQueue, Cpu: id%3 - 1}, id)
	}
	for cpu := -1; cpu < 2; cpu++ {
		b.no(api.Ev{Kind: api.EvQueue, Cpu: cpu}, api.ErrFull)
	}
	b.no(api.Ev{Kind: api.EvQueue, Cpu: 2}, api.ErrRange)
	b.ok(api.Ev{Kind: api.EvFlush, Id: 32}, 1)
}

func TestCalls(t *testing.T) {
	b := newBoth(t, 2)
	for id := 1; id <= 32; id++ {
		b.ok(api.Ev{Kind: api.EvCall, Cpu: id % 2}, id)
	}
	b.no(api.Ev{Kind: api.EvCall, Cpu: 1}, api.ErrFull)
	b.no(api.Ev{Kind: api.EvCall, Cpu: 2}, api.ErrRange)
	b.step(0, did(api.RecCall, 0, 2))
	b.step(1, did(api.RecCall, 1, 1))
	b.step(1, did(api.RecCall, 1, 3))
	b.ok(api.Ev{Kind: api.EvCall, Cpu: 0}, 1)
}

func TestObjects(t *testing.T) {
	b := newBoth(t, 2)
	b.no(api.Ev{Kind: api.EvGive, Cpu: 0, Id: 1}, api.ErrNone)
	b.ok(api.Ev{Kind: api.EvAlloc, Cpu: 0}, 2)
	b.ok(api.Ev{Kind: api.EvAlloc, Cpu: 1}, 4)
	b.ok(api.Ev{Kind: api.EvAlloc, Cpu: 0}, 1)
	b.no(api.Ev{Kind: api.EvGive, Cpu: 0, Id: 3}, api.ErrNone)
	b.ok(api.Ev{Kind: api.EvGive, Cpu: 1, Id: 2}, 0)
	b.no(api.Ev{Kind: api.EvGive, Cpu: 1, Id: 2}, api.ErrNone)
	b.ok(api.Ev{Kind: api.EvAlloc, Cpu: 1}, 2)
	// Core 1 keeps the 3: core 0 gets all others.
	for range 92 {
		if l := b.run(api.Ev{Kind: api.EvAlloc, Cpu: 0}); l[0].Why != api.OK {
			t.Fatal("Alloc", l)
		}
	}
	b.no(api.Ev{Kind: api.EvAlloc, Cpu: 0}, api.ErrFull)
	b.ok(api.Ev{Kind: api.EvAlloc, Cpu: 1}, 3)
	b.no(api.Ev{Kind: api.EvAlloc, Cpu: 1}, api.ErrFull)
	for _, id := range append([]int{-1, 0, 97}, noCores...) {
		if id < 1 || id > 96 {
			b.no(api.Ev{Kind: api.EvGive, Cpu: 0, Id: id}, api.ErrNone)
		}
	}
	for id := 1; id <= 96; id++ {
		b.ok(api.Ev{Kind: api.EvGive, Cpu: id % 2, Id: id}, 0)
	}
}
