package mask_test

import (
	"math"
	"slices"
	"testing"

	"davit/api"
	"davit/mask"
)

const full = ^mask.Mask(0)

// numbers has cores, the edges beside them, and numbers that are no cores at all.
func numbers() []int {
	return []int{math.MinInt, math.MinInt + 1, math.MinInt32, -65, -64, -63, -2, -1, 0, 1, 2, 5, 31, 32, 33, 62, 63, 64, 65, 127, 128, 1 << 31, 1 << 32, 1<<32 + 5, math.MaxInt - 1, math.MaxInt}
}

// masks has the edges, patterns, and some that a fixed rule makes.
func masks() []mask.Mask {
	list := []mask.Mask{0, full, 1, 2, 3, 1 << 62, 1 << 63, 3 << 62, 1<<63 + 1, full - 1, full >> 1, 0x5555555555555555, 0xaaaaaaaaaaaaaaaa, 0xffffffff, 0xffffffff00000000, 0x22}
	m := mask.Mask(0x9e3779b97f4a7c15)
	for range 40 {
		m = m*6364136223846793005 + 1442695040888963407
		list = append(list, m, m&(m>>7), m&(m>>7)&(m<<13))
	}
	return list
}

// in says by the value of its bit whether cpu is in m, without a call of the package.
func in(m mask.Mask, cpu int) bool {
	if cpu < 0 || cpu > 63 {
		return false
	}
	for range cpu {
		m /= 2
	}
	return m%2 == 1
}

func TestOf(t *testing.T) {
	cases := []struct {
		cpus []int
		want mask.Mask
	}{
		{nil, 0},
		{[]int{}, 0},
		{[]int{0}, 1},
		{[]int{63}, 1 << 63},
		{[]int{1, 5, 64, -1}, 1<<1 | 1<<5},
		{[]int{5, 1, 5, 1, 1}, 1<<1 | 1<<5},
		{[]int{64, 65, -1, -64, 128, math.MaxInt, math.MinInt}, 0},
		{[]int{1 << 32, 1<<32 + 1}, 0},
	}
	for _, c := range cases {
		if m := mask.Of(c.cpus...); m != c.want {
			t.Errorf("Of(%v) = %x, want %x", c.cpus, m, c.want)
		}
	}
	if m := mask.Of(); m != 0 {
		t.Errorf("Of() = %x", m)
	}
	for _, cpu := range numbers() {
		m := mask.Of(cpu)
		for k := range 64 {
			if in(m, k) != (k == cpu) {
				t.Errorf("Of(%d) = %x", cpu, m)
			}
		}
	}
}

func TestOfLeavesItsListAlone(t *testing.T) {
	cpus := []int{7, 64, 3, -1, 3}
	m := mask.Of(cpus...)
	n := m.With(cpus...)
	if !slices.Equal(cpus, []int{7, 64, 3, -1, 3}) {
		t.Errorf("the list is %v now", cpus)
	}
	cpus[0] = 9
	if m != 1<<7|1<<3 || n != m {
		t.Errorf("Of: %x, With: %x", m, n)
	}
}

func TestUpto(t *testing.T) {
	for _, n := range append(numbers(), 3, 4, 30, 61) {
		m := mask.Upto(n)
		for cpu := range 64 {
			if in(m, cpu) != (cpu < n) {
				t.Errorf("Upto(%d) = %x: core %d", n, m, cpu)
			}
		}
	}
	if mask.Upto(0) != 0 || mask.Upto(1) != 1 || mask.Upto(63) != full>>1 || mask.Upto(64) != full || mask.Upto(65) != full {
		t.Error("Upto at its edges")
	}
}

func TestHas(t *testing.T) {
	for _, m := range masks() {
		for cpu := -70; cpu < 140; cpu++ {
			if m.Has(cpu) != in(m, cpu) {
				t.Errorf("%x.Has(%d) = %v", m, cpu, m.Has(cpu))
			}
		}
		for _, cpu := range numbers() {
			if m.Has(cpu) != in(m, cpu) {
				t.Errorf("%x.Has(%d) = %v", m, cpu, m.Has(cpu))
			}
		}
	}
}

func TestWithAndLess(t *testing.T) {
	for _, m := range masks() {
		for _, cpu := range numbers() {
			more, less := m.With(cpu), m.Less(cpu)
			for k := range 64 {
				if in(more, k) != (in(m, k) || k == cpu) {
					t.Errorf("%x.With(%d) = %x", m, cpu, more)
				}
				if in(less, k) != (in(m, k) && k != cpu) {
					t.Errorf("%x.Less(%d) = %x", m, cpu, less)
				}
			}
		}
		if m.With() != m || m.With(64, -1, math.MinInt, math.MaxInt) != m {
			t.Errorf("%x.With of no cores", m)
		}
		if m.With(0, 63, 64, 63) != m|1|1<<63 {
			t.Errorf("%x.With(0, 63, 64, 63) = %x", m, m.With(0, 63, 64, 63))
		}
	}
}

func TestAndOrNot(t *testing.T) {
	for _, m := range masks() {
		for _, o := range masks() {
			and, or, not := m.And(o), m.Or(o), m.Not(o)
			for k := range 64 {
				a, b := in(m, k), in(o, k)
				if in(and, k) != (a && b) || in(or, k) != (a || b) || in(not, k) != (a && !b) {
					t.Fatalf("of %x and %x: And %x, Or %x, Not %x", m, o, and, or, not)
				}
			}
		}
	}
}

func TestManyAndList(t *testing.T) {
	for _, m := range masks() {
		var want []int
		for k := range 64 {
			if in(m, k) {
				want = append(want, k)
			}
		}
		if got := m.List(); !slices.Equal(got, want) {
			t.Errorf("%x.List() = %v, want %v", m, got, want)
		}
		if m.Many() != len(want) {
			t.Errorf("%x.Many() = %d, want %d", m, m.Many(), len(want))
		}
	}
	if mask.Mask(0).Many() != 0 || len(mask.Mask(0).List()) != 0 || full.Many() != 64 || len(full.List()) != 64 {
		t.Error("the empty and the full mask")
	}
}

func TestListIsNewEachTime(t *testing.T) {
	m := mask.Of(2, 3, 63)
	first := m.List()
	second := m.List()
	first[0] = 50
	_ = append(first[:1], 51, 52)
	if !slices.Equal(second, []int{2, 3, 63}) || !slices.Equal(m.List(), []int{2, 3, 63}) {
		t.Errorf("%v, %v", second, m.List())
	}
}

func TestFirstAndLast(t *testing.T) {
	for _, m := range masks() {
		first, e := m.First()
		last, f := m.Last()
		if m == 0 {
			if first != 0 || e != api.ErrEmpty || last != 0 || f != api.ErrEmpty {
				t.Errorf("the empty mask: %d %d, %d %d", first, e, last, f)
			}
			continue
		}
		if e != api.OK || f != api.OK || !in(m, first) || !in(m, last) {
			t.Errorf("%x: First %d %d, Last %d %d", m, first, e, last, f)
		}
		for k := range 64 {
			if in(m, k) && (k < first || k > last) {
				t.Errorf("%x: First %d, Last %d, but %d is there", m, first, last, k)
			}
		}
	}
}

// next goes through all cores one by one.
func next(m mask.Mask, cpu int) (int, api.Errno) {
	for k := range 64 {
		if in(m, k) && k > cpu {
			return k, api.OK
		}
	}
	for k := range 64 {
		if in(m, k) {
			return k, api.OK
		}
	}
	return 0, api.ErrEmpty
}

func TestNext(t *testing.T) {
	for _, m := range masks() {
		for cpu := -66; cpu < 130; cpu++ {
			checkNext(t, m, cpu)
		}
		for _, cpu := range numbers() {
			checkNext(t, m, cpu)
		}
	}
	if n, e := mask.Of(1, 5, 64, -1).Next(5); n != 1 || e != api.OK {
		t.Error("the chapter's example:", n, e)
	}
	if n, e := mask.Of(63).Next(63); n != 63 || e != api.OK {
		t.Error("core 63 alone:", n, e)
	}
}

func checkNext(t *testing.T, m mask.Mask, cpu int) {
	t.Helper()
	got, e := m.Next(cpu)
	want, f := next(m, cpu)
	if got != want || e != f {
		t.Errorf("%x.Next(%d) = %d %d, want %d %d", m, cpu, got, e, want, f)
	}
}

func TestWithin(t *testing.T) {
	for _, m := range masks() {
		for _, o := range masks() {
			want := true
			for k := range 64 {
				want = want && (!in(m, k) || in(o, k))
			}
			if m.Within(o) != want {
				t.Errorf("%x.Within(%x) = %v", m, o, m.Within(o))
			}
		}
		if !m.Within(m) || !m.Within(full) || !mask.Mask(0).Within(m) || m.Within(0) != (m == 0) {
			t.Errorf("%x.Within at its edges", m)
		}
	}
}

func TestOfListIsTheMask(t *testing.T) {
	for _, m := range masks() {
		if got := mask.Of(m.List()...); got != m {
			t.Errorf("Of of List of %x = %x", m, got)
		}
	}
}

func TestManyOfTwo(t *testing.T) {
	for _, m := range masks() {
		for _, o := range masks() {
			if m.Or(o).Many() != m.Many()+o.Many()-m.And(o).Many() {
				t.Errorf("of %x and %x", m, o)
			}
		}
	}
}

func TestNextTellsEachOnce(t *testing.T) {
	for _, m := range masks() {
		for _, start := range append(numbers(), 17, 40) {
			told := mask.Mask(0)
			cpu := start
			for range m.Many() {
				n, e := m.Next(cpu)
				if e != api.OK || in(told, n) {
					t.Fatalf("%x from %d: %d %d, told %x", m, start, n, e, told)
				}
				told |= 1 << n
				cpu = n
			}
			if told != m {
				t.Errorf("%x from %d: told %x", m, start, told)
			}
		}
	}
}
