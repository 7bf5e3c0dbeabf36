package affin_test

import (
	"math"
	"slices"
	"testing"

	"davit/affin"
	"davit/api"
	"davit/mask"
)

// all is every core that there may be.
const all = ^mask.Mask(0)

// far are numbers that no core has.
var far = []int{math.MinInt, -1 << 32, -65, -64, -1, 64, 65, 127, 128, 1 << 32, 1<<32 + 1, math.MaxInt}

func chooses(t *testing.T, want, active mask.Mask, near, cpu int, forced bool, wantWhy api.Errno) {
	t.Helper()
	if c, f, why := affin.Choose(want, active, near); c != cpu || f != forced || why != wantWhy {
		t.Fatalf("Choose(%b, %b, %d) = %d, %v, %d, want %d, %v, %d", uint64(want), uint64(active), near, c, f, why, cpu, forced, wantWhy)
	}
}

func isWrong(t *testing.T, active mask.Mask, x affin.Item, want bool) {
	t.Helper()
	if wrong := affin.Wrong(active, x); wrong != want {
		t.Fatalf("Wrong(%b, %+v) = %v, want %v", uint64(active), x, wrong, want)
	}
}

func repairs(t *testing.T, active mask.Mask, l []affin.Item, want ...affin.Item) {
	t.Helper()
	if got := affin.Repair(active, l...); !slices.Equal(got, want) {
		t.Fatalf("Repair(%b, %+v) = %+v, want %+v", uint64(active), l, got, want)
	}
}

// in is whether a core is in a mask, without the calls of package mask.
func in(m mask.Mask, cpu int) bool {
	for k := range 64 {
		if k == cpu {
			return uint64(m)>>k&1 == 1
		}
	}
	return false
}

// plainChoose looks for the core by going round from near on.
func plainChoose(want, active mask.Mask, near int) (int, bool) {
	from, forced := want&active, want&active == 0
	if forced {
		from = active
	}
	start := 0
	if near >= 0 && near < 64 {
		start = near
	}
	for k := range 64 {
		if in(from, (start+k)%64) {
			return (start + k) % 64, forced
		}
	}
	return 0, false
}

// plainWrong is the document's three questions, one by one.
func plainWrong(active mask.Mask, x affin.Item) bool {
	if !in(active, x.Cpu) {
		return true
	}
	common := false
	for k := range 64 {
		common = common || in(x.Mask, k) && in(active, k)
	}
	if common && !in(x.Mask, x.Cpu) {
		return true
	}
	return x.Forced != !in(x.Mask, x.Cpu)
}

func TestChooseOfTheDocument(t *testing.T) {
	chooses(t, mask.Of(1, 3), mask.Of(0, 1, 2), 3, 1, false, api.OK)
	chooses(t, mask.Of(3), mask.Of(0, 1), 3, 0, true, api.OK)
}

func TestChooseTellsThatNoneIsActive(t *testing.T) {
	for _, want := range []mask.Mask{0, 1, 6, 1 << 63, all} {
		for _, near := range append([]int{0, 1, 63}, far...) {
			chooses(t, want, 0, near, 0, false, api.ErrEmpty)
		}
	}
}

func TestChooseOfWhatIsWanted(t *testing.T) {
	want, active := mask.Of(1, 4, 6, 9), mask.Of(0, 1, 3, 4, 6, 8)
	// Near itself, if it is wanted and active; else the next one above; behind the last one the lowest.
	for near, cpu := range []int{1, 1, 4, 4, 4, 6, 6, 1, 1, 1, 1} {
		chooses(t, want, active, near, cpu, false, api.OK)
	}
	chooses(t, all, all, 63, 63, false, api.OK)
	chooses(t, all, all.Less(63), 63, 0, false, api.OK)
	chooses(t, mask.Of(0, 63), all, 1, 63, false, api.OK)
	chooses(t, mask.Of(63), all, 0, 63, false, api.OK)
	chooses(t, all, mask.Of(5), 5, 5, false, api.OK)
}

func TestChooseOfWhatIsActive(t *testing.T) {
	// What is wanted does not count any more, near neither, unless it is active.
	want, active := mask.Of(2, 5), mask.Of(0, 3, 7)
	for near, cpu := range []int{0, 3, 3, 3, 7, 7, 7, 7, 0, 0} {
		chooses(t, want, active, near, cpu, true, api.OK)
		chooses(t, 0, active, near, cpu, true, api.OK)
	}
	chooses(t, 0, all, 63, 63, true, api.OK)
	chooses(t, mask.Of(0), mask.Of(63), 0, 63, true, api.OK)
	chooses(t, mask.Of(63), mask.Of(0), 63, 0, true, api.OK)
}

func TestChooseNearToNoCore(t *testing.T) {
	for _, near := range far {
		// Below all cores the next one is the lowest; above all of them there is none, so it is the lowest, too.
		chooses(t, mask.Of(2, 5, 63), all, near, 2, false, api.OK)
		chooses(t, mask.Of(2, 63), mask.Of(63), near, 63, false, api.OK)
		chooses(t, mask.Of(2, 5), mask.Of(3, 63), near, 3, true, api.OK)
		chooses(t, 0, all, near, 0, true, api.OK)
	}
}

func TestWrong(t *testing.T) {
	for _, c := range []struct {
		active, m mask.Mask
		cpu       int
		forced    bool
		wrong     bool
	}{
		{3, 3, 1, false, false}, // it is where it is to be
		{3, 3, 1, true, true},   // but it is not forced
		{3, 3, 2, false, true},  // it is not active
		{3, 7, 2, false, true},  // it is not active, though it is wanted
		{3, 3, 2, true, true},
		{3, 1, 1, true, true}, // it is forced, though it need not be
		{3, 1, 1, false, true},
		{3, 4, 1, true, false}, // it is forced, since it must be
		{3, 4, 1, false, true},
		{3, 4, 2, false, true}, // it waits for a core that is not active
		{3, 4, 2, true, true},
		{3, 0, 1, true, false}, // it is for no core
		{3, 0, 1, false, true},
		{1 << 63, 1 << 63, 63, false, false},
		{1 << 63, 1, 63, true, false},
		{1 << 63, 1, 63, false, true},
		{all, all, 63, false, false},
		{all, 1, 63, true, true},
		{0, 3, 1, false, true}, // none is active
		{0, 0, 0, true, true},
		{0, 0, 0, false, true},
	} {
		isWrong(t, c.active, affin.Item{Id: 7, Mask: c.m, Cpu: c.cpu, Forced: c.forced}, c.wrong)
	}
	for _, cpu := range far {
		for _, forced := range []bool{true, false} {
			isWrong(t, all, affin.Item{Mask: all, Cpu: cpu, Forced: forced}, true)
			isWrong(t, all, affin.Item{Mask: 0, Cpu: cpu, Forced: forced}, true)
			isWrong(t, 0, affin.Item{Mask: all, Cpu: cpu, Forced: forced}, true)
		}
	}
}

// TestWrongDoesNotHangOnTheNumber: all numbers are as good as any.
func TestWrongDoesNotHangOnTheNumber(t *testing.T) {
	for _, id := range far {
		isWrong(t, 3, affin.Item{Id: id, Mask: 3, Cpu: 1}, false)
		isWrong(t, 3, affin.Item{Id: id, Mask: 3, Cpu: 2}, true)
		repairs(t, 3, []affin.Item{{Id: id, Mask: 3, Cpu: 2}}, affin.Item{Id: id, Mask: 3, Cpu: 0})
	}
}

func TestRepair(t *testing.T) {
	l := []affin.Item{
		{Id: 9, Mask: 3, Cpu: 2},
		{Id: 1, Mask: 3, Cpu: 1},
		{Id: 8, Mask: 8, Cpu: 1, Forced: false},
		{Id: 2, Mask: 8, Cpu: 1, Forced: true},
		{Id: 9, Mask: 3, Cpu: 2},
		{Id: 7, Mask: 2, Cpu: 0, Forced: true},
		{Id: 6, Mask: 3, Cpu: 1, Forced: true},
		{Id: 5, Mask: 8, Cpu: 3},
		{Id: 4, Mask: 0, Cpu: -5},
	}
	// Those that are right are left out; the others are told in their order, as often as they are there.
	repairs(t, 3, l,
		affin.Item{Id: 9, Mask: 3, Cpu: 0},
		affin.Item{Id: 8, Mask: 8, Cpu: 1, Forced: true},
		affin.Item{Id: 9, Mask: 3, Cpu: 0},
		affin.Item{Id: 7, Mask: 2, Cpu: 1},
		affin.Item{Id: 6, Mask: 3, Cpu: 1},
		affin.Item{Id: 5, Mask: 8, Cpu: 0, Forced: true},
		affin.Item{Id: 4, Mask: 0, Cpu: 0, Forced: true})
	repairs(t, 0, l)
	repairs(t, 3, nil)
	repairs(t, 0, nil)
	repairs(t, 3, []affin.Item{})
	repairs(t, 3, []affin.Item{{Id: 1, Mask: 3, Cpu: 1}, {Id: 2, Mask: 8, Cpu: 1, Forced: true}})
	// As many as there are, one by one.
	one := affin.Repair(4, affin.Item{Id: 1, Mask: 7, Cpu: 0}, affin.Item{Id: 2, Mask: 7, Cpu: 2})
	if !slices.Equal(one, []affin.Item{{Id: 1, Mask: 7, Cpu: 2}}) {
		t.Errorf("Repair = %+v", one)
	}
	if none := affin.Repair(4); len(none) != 0 {
		t.Errorf("Repair of none = %+v", none)
	}
}

func TestRepairNearToItsCore(t *testing.T) {
	for cpu, want := range []int{1, 1, 4, 4, 4, 6, 6, 1} {
		x := affin.Item{Id: 3, Mask: mask.Of(1, 4, 6), Cpu: cpu, Forced: true}
		repairs(t, mask.Upto(7), []affin.Item{x}, affin.Item{Id: 3, Mask: x.Mask, Cpu: want})
	}
	for _, cpu := range far {
		x := affin.Item{Id: 3, Mask: mask.Of(1, 4, 6), Cpu: cpu}
		repairs(t, mask.Of(4, 6), []affin.Item{x}, affin.Item{Id: 3, Mask: x.Mask, Cpu: 4})
		repairs(t, mask.Of(5, 63), []affin.Item{x}, affin.Item{Id: 3, Mask: x.Mask, Cpu: 5, Forced: true})
	}
}

func TestRepairLeavesTheListAsItIs(t *testing.T) {
	l := []affin.Item{{Id: 1, Mask: 1, Cpu: 2}, {Id: 2, Mask: 3, Cpu: 1}, {Id: 3, Mask: 4, Cpu: 0}, {Id: 4, Mask: 1, Cpu: 9}}
	kept := slices.Clone(l)
	got := affin.Repair(3, l[:3]...)
	want := []affin.Item{{Id: 1, Mask: 1, Cpu: 0}, {Id: 3, Mask: 4, Cpu: 0, Forced: true}}
	if !slices.Equal(got, want) || !slices.Equal(l, kept) {
		t.Fatalf("Repair = %+v, and the list is %+v", got, l)
	}
	// The answer is the caller's own: neither is seen in the other.
	_ = append(got, affin.Item{Id: 77}, affin.Item{Id: 78})
	for i := range got {
		got[i].Id = 99
	}
	if !slices.Equal(l, kept) {
		t.Errorf("the list is %+v after the answer was written into", l)
	}
	got = affin.Repair(3, l[:3]...)
	for i := range l {
		l[i] = affin.Item{Id: 55}
	}
	if !slices.Equal(got, want) {
		t.Errorf("the answer is %+v after the list was written into", got)
	}
}

// holdsOf holds each call against the plain ones, and what follows from them, of one thing.
func holdsOf(t *testing.T, active mask.Mask, x affin.Item) {
	t.Helper()
	wrong := plainWrong(active, x)
	isWrong(t, active, x, wrong)
	if active == 0 {
		chooses(t, x.Mask, active, x.Cpu, 0, false, api.ErrEmpty)
		repairs(t, active, []affin.Item{x})
		return
	}
	cpu, forced := plainChoose(x.Mask, active, x.Cpu)
	chooses(t, x.Mask, active, x.Cpu, cpu, forced, api.OK)
	if !in(active, cpu) || forced == in(x.Mask, cpu) || x.Mask&active != 0 && forced {
		t.Fatalf("Choose(%b, %b, %d) = %d, %v", uint64(x.Mask), uint64(active), x.Cpu, cpu, forced)
	}
	y := x
	y.Cpu, y.Forced = cpu, forced
	isWrong(t, active, y, false)
	repairs(t, active, []affin.Item{y})
	if wrong {
		repairs(t, active, []affin.Item{x, y, x}, y, y)
	} else {
		repairs(t, active, []affin.Item{x, y, x})
	}
}

// TestAllOfFewCores goes over all masks of five cores, and all cores near to them.
func TestAllOfFewCores(t *testing.T) {
	for active := range mask.Mask(32) {
		for m := range mask.Mask(32) {
			for cpu := -2; cpu < 8; cpu++ {
				holdsOf(t, active, affin.Item{Id: cpu, Mask: m, Cpu: cpu})
				holdsOf(t, active, affin.Item{Id: cpu, Mask: m, Cpu: cpu, Forced: true})
			}
		}
	}
}

// TestManyOfAllCores goes over masks of all cores, by a fixed rule, thick and thin ones.
func TestManyOfAllCores(t *testing.T) {
	state := uint64(13)
	draw := func() uint64 {
		state = state*6364136223846793005 + 1442695040888963407
		return state>>32 | state<<32
	}
	thin := func() mask.Mask {
		m := mask.Mask(draw())
		for range draw() % 7 {
			m &= mask.Mask(draw())
		}
		return m
	}
	for range 20000 {
		active, m, cpu := thin(), thin(), int(draw()%70)-3
		holdsOf(t, active, affin.Item{Id: 1, Mask: m, Cpu: cpu, Forced: draw()%2 == 0})
	}
}
