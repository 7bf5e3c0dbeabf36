package whole_test

import (
	"math"
	"strings"
	"testing"

	"davit/api"
	"davit/drill"
	"davit/mask"
	"davit/refine"
	"davit/replay"
	"davit/script"
	"davit/shell"
	"davit/show"
	"davit/spread"
	"davit/tally"
	"davit/wire"
	"davit/words"
)

// oddEvents are events of each kind, and of others, with numbers of which many can not be.
func oddEvents() []api.Ev {
	odd := []int{0, 1, -1, 2, 33, 64, 97, 601, math.MinInt, math.MaxInt, 1 << 32, math.MaxInt32 + 1}
	var l []api.Ev
	for kind := -1; kind < 33; kind++ {
		for _, n := range odd {
			l = append(l, api.Ev{Kind: kind, Cpu: n, Id: n, Mask: uint64(n), N: int64(n)}, api.Ev{Kind: kind, Cpu: n}, api.Ev{Kind: kind, Id: n}, api.Ev{Kind: kind, N: int64(n), Mask: uint64(n)})
		}
	}
	for _, n := range odd {
		l = append(l, api.Ev{Kind: n, Cpu: n}, api.Ev{Kind: -n, Mask: 1})
	}
	return l
}

// P6, P1: odd events are done, or refused, and a kernel is a model all the same.
func TestOddEvents(t *testing.T) {
	l := oddEvents()
	for _, cpus := range []int{1, 2, 3, 64} {
		if many, why := refine.Check(cpus, l...); many != len(l) || why != api.OK {
			t.Errorf("%d cores: Check = %d, %d: %+v", cpus, many, why, l[many%len(l)])
		}
		recs, why := replay.Trace(cpus, l...)
		x, e := tally.Of(cpus, l...)
		if why != api.OK || e != api.OK || x.Errors == 0 || int(x.Errors) > len(recs)+len(l) {
			t.Errorf("%d cores: %d records, %d, %+v, %d", cpus, len(recs), why, x, e)
		}
	}
}

// P6: what can not be written is refused by an error, beside which there is nothing; what is written is read again.
func TestOddWriting(t *testing.T) {
	for _, e := range oddEvents() {
		line, why := words.Line(e)
		if back, n := words.Parse(line); why == api.OK && (back != e || n != api.OK) || why != api.OK && line != "" {
			t.Errorf("Line(%+v) = %q, %d, and back %+v, %d", e, line, why, back, n)
		}
		if b := wire.Put(e); len(b) > 0 {
			if back, size, why := wire.Get(b); back != e || size != len(b) || why != api.OK {
				t.Errorf("Put(%+v) = %x, and back %+v, %d, %d", e, b, back, size, why)
			}
		}
		if b, why := script.Put(script.Script{Cpus: 2, Evs: []api.Ev{e}}); why != api.OK && len(b) > 0 {
			t.Errorf("Put(%+v) = %x, %d", e, b, why)
		}
	}
}

// texts are texts that are no event's, or hardly one's.
func texts() []string {
	l := []string{"", " ", "\n", "\x00", "\xff\xfe", "step", "step ", "step  1", " step 1", "step 1 ", "step +1", "step 01", "step -0", "step 1\n", "step 99999999999999999999", "step -9223372036854775808", "tick \u0665", "spawn 1 0,0", "spawn 1 1,0", "spawn 1 ,", "spawn 1 64", "ask", "ask ", "ask queue", "ask queue 64", "ask queue -1", "ask Now", "#", "ret", "ret c", "hot e1 c1", strings.Repeat("9", 301), "step " + strings.Repeat("0", 400), strings.Repeat("a ", 9000), strings.Repeat("\n", 17000)}
	dice := drill.New(6)
	for range 300 {
		b := make([]byte, dice.Roll(40))
		for at := range b {
			b[at] = byte(dice.Roll(256))
		}
		l = append(l, string(b))
	}
	return l
}

// P6: texts and bytes of any kind are read, or refused by an error, beside which there is nothing.
func TestOddTexts(t *testing.T) {
	s, _ := shell.New(2)
	for _, text := range texts() {
		if e, why := words.Parse(text); why != api.OK && e != (api.Ev{}) {
			t.Errorf("Parse(%q) = %+v, %d", text, e, why)
		}
		if l, _, why := words.Read(text); why != api.OK && len(l) > 0 {
			t.Errorf("Read(%q) = %v, %d", text, l, why)
		}
		if r, why := show.Back(text); why != api.OK && r != (api.Rec{}) {
			t.Errorf("Back(%q) = %+v, %d", text, r, why)
		}
		if e, size, why := wire.Get([]byte(text)); why != api.OK && (e != (api.Ev{}) || size != 0) {
			t.Errorf("Get(%x) = %+v, %d, %d", text, e, size, why)
		}
		if x, why := script.Get([]byte(text)); why != api.OK && (x.Cpus != 0 || len(x.Evs) > 0) {
			t.Errorf("script.Get(%x) = %+v, %d", text, x, why)
		}
		if l, why := script.Trace([]byte(text)); why != api.OK && len(l) > 0 {
			t.Errorf("script.Trace(%x) = %v, %d", text, l, why)
		}
		s.Do(text)
		if told, why := s.Run(text); (why != api.OK) != (len(text) > api.MaxText) || why != api.OK && told != "" {
			t.Errorf("Run(%q) = %q, %d", text, told, why)
		}
	}
}

// P6: things and loads that can not be are refused, or count for nothing.
func TestOddThings(t *testing.T) {
	odd := []int{0, 1, -1, 63, 64, 65, math.MinInt, math.MaxInt}
	for _, a := range odd {
		for _, b := range odd {
			l := []spread.Item{{Id: a, Cpu: b, Mask: mask.Mask(a)}, {Id: b, Cpu: a, Mask: mask.Mask(b)}}
			if moves, why := spread.Plan(a, mask.Mask(b), l...); why != api.OK && len(moves) > 0 {
				t.Errorf("Plan(%d, %x, %v) = %v, %d", a, b, l, moves, why)
			}
			if things, why := spread.Apply(l, spread.Move{Id: a, From: a, To: b}); why != api.OK && len(things) > 0 {
				t.Errorf("Apply(%v) = %v, %d", l, things, why)
			}
			spread.Loads(a, l...)
			spread.Gap([]int{a, b}, mask.Mask(b))
			if n := spread.Weight([]int{a, b}); n < 0 || n > 2*65*65 {
				t.Errorf("Weight(%d, %d) = %d", a, b, n)
			}
			x := tally.Tally{Things: [5]int64{int64(a), int64(b)}, Cores: []int64{int64(a), int64(b)}, Done: int64(a), Waited: int64(b)}
			x.Part(a)
			x.Mean()
			x.Even()
		}
	}
}
