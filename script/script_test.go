package script_test

import (
	"bytes"
	"math"
	"slices"
	"testing"

	"davit/api"
	"davit/kernel"
	"davit/script"
	"davit/wire"
)

// steps is so many events of the kind EvStep, of one core after another.
func steps(many, cpus int) []api.Ev {
	l := make([]api.Ev, many)
	for at := range l {
		l[at] = api.Ev{Kind: api.EvStep, Cpu: at % cpus}
	}
	return l
}

// picks makes numbers by a fixed rule.
func picks(state uint64) func(n int) int {
	return func(n int) int {
		state = state*6364136223846793005 + 1442695040888963407
		return int(state>>33) % n
	}
}

// anyEvent is an event of any kind that is one, a part of them steps, mostly of things that may be there.
func anyEvent(pick func(n int) int, cpus int) api.Ev {
	e := api.Ev{Kind: api.EvStep, Cpu: pick(cpus)}
	if pick(2) == 0 {
		return e
	}
	e.Kind = 1 + pick(30)
	e.Id = []int{pick(4), pick(17), pick(100) - 1}[pick(3)]
	e.Mask = 1 + uint64(pick(1<<31))>>pick(31)
	e.N = []int64{int64(pick(4)), int64(pick(100)), int64(pick(2000)) - 5, math.MinInt64}[pick(4)]
	if pick(20) == 0 {
		e.Cpu = []int{-1, cpus, math.MaxInt, math.MinInt}[pick(4)]
	}
	return e
}

// anyScript is so many events for so many cores.
func anyScript(seed uint64, cpus, many int) script.Script {
	pick := picks(seed)
	s := script.Script{Cpus: cpus}
	for range many {
		s.Evs = append(s.Evs, anyEvent(pick, cpus))
	}
	return s
}

// plainTrace is what a script's trace must be: all that a kernel of its own tells, event by event.
func plainTrace(t *testing.T, s script.Script) []api.Rec {
	t.Helper()
	k, why := kernel.New(s.Cpus)
	if why != api.OK {
		t.Fatalf("kernel.New(%d) = %d", s.Cpus, why)
	}
	var l []api.Rec
	for _, e := range s.Evs {
		for _, r := range k.Do(e) {
			l = append(l, r)
		}
	}
	return l
}

// copied is a script in memory of its own.
func copied(s script.Script) script.Script {
	s.Evs = slices.Clone(s.Evs)
	return s
}

// puts says what Put answers, and that Get and Trace of it are the script and its trace.
func puts(t *testing.T, s script.Script, want []byte) {
	t.Helper()
	kept := copied(s)
	b, why := script.Put(s)
	if !bytes.Equal(b, want) || why != api.OK {
		t.Fatalf("Put(%+v) = %x, %d, want %x", s, b, why, want)
	}
	gets(t, want, s)
	if l, why := script.Trace(b); !slices.Equal(l, plainTrace(t, s)) || why != api.OK {
		t.Fatalf("Trace(%x) = %v, %d", b, l, why)
	}
	if s.Cpus != kept.Cpus || !slices.Equal(s.Evs, kept.Evs) {
		t.Fatalf("Put changed %+v to %+v", kept, s)
	}
}

// gets says which script Get answers, and that this one, put, is the bytes.
func gets(t *testing.T, b []byte, want script.Script) {
	t.Helper()
	kept := bytes.Clone(b)
	s, why := script.Get(b)
	if s.Cpus != want.Cpus || !slices.Equal(s.Evs, want.Evs) || why != api.OK {
		t.Fatalf("Get(%x) = %+v, %d, want %+v", b, s, why, want)
	}
	if again, why := script.Put(s); !bytes.Equal(again, b) || why != api.OK {
		t.Fatalf("Put(Get(%x)) = %x, %d", b, again, why)
	}
	if !bytes.Equal(b, kept) {
		t.Fatalf("Get changed %x to %x", kept, b)
	}
}

// refusesBytes says which error Get and Trace answer, and nothing beside it.
func refusesBytes(t *testing.T, b []byte, want api.Errno) {
	t.Helper()
	if s, why := script.Get(b); s.Cpus != 0 || len(s.Evs) != 0 || why != want {
		t.Fatalf("Get(%.40x) = %+v, %d, want %d", b, s, why, want)
	}
	if l, why := script.Trace(b); len(l) != 0 || why != want {
		t.Fatalf("Trace(%.40x) = %v, %d, want %d", b, l, why, want)
	}
}

// refusesPut says which error Put answers, and nothing beside it.
func refusesPut(t *testing.T, s script.Script, want api.Errno) {
	t.Helper()
	if b, why := script.Put(s); len(b) != 0 || why != want {
		t.Fatalf("Put of %d cores, %d events = %x, %d, want %d", s.Cpus, len(s.Evs), b, why, want)
	}
}

// refusesRun says which error Run answers, and nothing beside it.
func refusesRun(t *testing.T, s script.Script, want api.Errno) {
	t.Helper()
	if l, why := script.Run(s); len(l) != 0 || why != want {
		t.Fatalf("Run of %d cores, %d events = %v, %d, want %d", s.Cpus, len(s.Evs), l, why, want)
	}
}

// runs says what Run answers, be its events of kinds that are or not.
func runs(t *testing.T, s script.Script, want []api.Rec) {
	t.Helper()
	kept := copied(s)
	if l, why := script.Run(s); !slices.Equal(l, want) || why != api.OK {
		t.Fatalf("Run(%+v) = %+v, %d, want %+v", s, l, why, want)
	}
	if !slices.Equal(s.Evs, kept.Evs) {
		t.Fatalf("Run changed %+v to %+v", kept, s)
	}
}

// The chapter's example, and scripts whose bytes are written out.
func TestBytes(t *testing.T) {
	puts(t, script.Script{Cpus: 2, Evs: []api.Ev{{Kind: api.EvSpawn, Id: 1, Mask: 3}}}, []byte("\x02\x03\x06\x01\x01\x01\x03"))
	puts(t, script.Script{Cpus: 1}, []byte("\x01"))
	puts(t, script.Script{Cpus: 1, Evs: []api.Ev{}}, []byte("\x01"))
	puts(t, script.Script{Cpus: 64}, []byte("\x40"))
	puts(t, script.Script{Cpus: 63, Evs: []api.Ev{{Kind: api.EvStep}, {Kind: api.EvBalance}}}, []byte("\x3f\x01\x00\x1e\x00"))
	puts(t, script.Script{Cpus: 30, Evs: []api.Ev{{Kind: api.EvTick, N: 200}, {Kind: api.EvQueue, Cpu: -1}}}, []byte("\x1e\x02\x08\x02\x00\xc8\x12\x01\x01\xff"))
	// Fields that an event's line would not name are bytes, too.
	puts(t, script.Script{Cpus: 5, Evs: []api.Ev{{Kind: 30, Cpu: 127, Id: 128, Mask: math.MaxUint64, N: -128}}}, []byte("\x05\x1e\x0f\x01\x7f\x02\x00\x80\x01\xff\x01\x80"))
}

// Each number of cores that there may be, with each kind of event, and those beside them.
func TestEachCpusAndKind(t *testing.T) {
	for cpus := -70; cpus <= 400; cpus++ {
		s := script.Script{Cpus: cpus, Evs: []api.Ev{{Kind: api.EvTick}}}
		if cpus < 1 || cpus > 64 {
			refusesPut(t, s, api.ErrArg)
			refusesRun(t, s, api.ErrArg)
			continue
		}
		puts(t, s, []byte{byte(cpus), 2, 0})
		runs(t, s, []api.Rec{{Kind: api.RecRet}})
	}
	for kind := -70; kind <= 400; kind++ {
		s := script.Script{Cpus: 3, Evs: []api.Ev{{Kind: api.EvStep, Cpu: 2}, {Kind: kind}}}
		if kind < 1 || kind > 30 {
			refusesPut(t, s, api.ErrArg)
			runs(t, s, []api.Rec{{Kind: api.RecRet, Why: api.ErrArg}})
			continue
		}
		puts(t, s, []byte{3, 1, 1, 1, 2, byte(kind), 0})
	}
	for _, n := range []int{math.MinInt, -1 << 32, 1 << 32, 1<<32 + 1, 1<<32 + 64, 1<<40 + 5, math.MaxInt} {
		refusesPut(t, script.Script{Cpus: n}, api.ErrArg)
		refusesRun(t, script.Script{Cpus: n}, api.ErrArg)
		refusesPut(t, script.Script{Cpus: 1, Evs: []api.Ev{{Kind: n}}}, api.ErrArg)
		runs(t, script.Script{Cpus: 1, Evs: []api.Ev{{Kind: n}}}, []api.Rec{{Kind: api.RecRet, Why: api.ErrArg}})
	}
}

// The kind of any event counts, wherever it stands.
func TestPutOfAKindThatIsNone(t *testing.T) {
	for _, kind := range []int{0, 31, -1, 257} {
		for _, at := range []int{0, 1, 300, 598, 599} {
			s := script.Script{Cpus: 2, Evs: steps(600, 2)}
			s.Evs[at].Kind = kind
			refusesPut(t, s, api.ErrArg)
			s.Evs = s.Evs[:at+1]
			refusesPut(t, s, api.ErrArg)
		}
	}
}

func TestMostEvents(t *testing.T) {
	for _, kind := range []int{api.EvTick, api.EvBalance} {
		s := script.Script{Cpus: 2, Evs: make([]api.Ev, 600)}
		for at := range s.Evs {
			s.Evs[at].Kind = kind
		}
		puts(t, s, append([]byte{2}, bytes.Repeat([]byte{byte(kind), 0}, 600)...))
		runs(t, s, plainTrace(t, s))
		if l := plainTrace(t, s); len(l) != 600 {
			t.Errorf("%d records", len(l))
		}
		for _, many := range []int{601, 602, 1200, 100000} {
			more := script.Script{Cpus: 2, Evs: slices.Repeat(s.Evs[:1], many)}
			refusesPut(t, more, api.ErrSize)
			refusesRun(t, more, api.ErrSize)
			refusesBytes(t, append([]byte{2}, bytes.Repeat([]byte{byte(kind), 0}, many)...), api.ErrSize)
		}
	}
}

// Which error goes ahead: that of the cores, then too many events, then a kind.
func TestErrorsInOrder(t *testing.T) {
	none := make([]api.Ev, 601)
	for _, cpus := range []int{-1, 0, 65} {
		for _, l := range [][]api.Ev{none, none[:600], none[:1], nil, steps(601, 1)} {
			refusesPut(t, script.Script{Cpus: cpus, Evs: l}, api.ErrArg)
			refusesRun(t, script.Script{Cpus: cpus, Evs: l}, api.ErrArg)
		}
	}
	for _, cpus := range []int{1, 2, 64} {
		refusesPut(t, script.Script{Cpus: cpus, Evs: none}, api.ErrSize)
		refusesRun(t, script.Script{Cpus: cpus, Evs: none}, api.ErrSize)
		refusesPut(t, script.Script{Cpus: cpus, Evs: none[:600]}, api.ErrArg)
		refusesPut(t, script.Script{Cpus: cpus, Evs: none[:1]}, api.ErrArg)
		refused := script.Script{Cpus: cpus, Evs: none[:600]}
		runs(t, refused, slices.Repeat([]api.Rec{{Kind: api.RecRet, Why: api.ErrArg}}, 600))
	}
}

// Bytes that are no script: the first byte, then whatever wire does not read.
func TestBytesThatAreNone(t *testing.T) {
	refusesBytes(t, nil, api.ErrShort)
	refusesBytes(t, []byte{}, api.ErrShort)
	for first := range 256 {
		head := []byte{byte(first)}
		if first >= 1 && first <= 64 {
			gets(t, head, script.Script{Cpus: first})
			refusesBytes(t, append(head, 0), api.ErrForm)
			refusesBytes(t, append(head, 1), api.ErrShort)
			continue
		}
		refusesBytes(t, head, api.ErrForm)
		refusesBytes(t, append(head, 1, 0), api.ErrForm)
		refusesBytes(t, append(head, 1), api.ErrForm)
		refusesBytes(t, append(head, bytes.Repeat([]byte{1, 0}, 601)...), api.ErrForm)
	}
	for b, want := range map[string]api.Errno{
		"\x01\x00":                 api.ErrForm,
		"\x02\x1f":                 api.ErrForm,
		"\x02\xff\x00":             api.ErrForm,
		"\x02\x01":                 api.ErrShort,
		"\x02\x01\x10":             api.ErrForm,
		"\x02\x01\x01":             api.ErrShort,
		"\x02\x01\x01\x00":         api.ErrForm,
		"\x02\x01\x01\x09":         api.ErrForm,
		"\x02\x01\x01\x01":         api.ErrShort,
		"\x02\x01\x01\x01\x00":     api.ErrForm,
		"\x02\x01\x01\x02\x00\x7f": api.ErrForm,
		"\x02\x01\x01\x02\xff\x80": api.ErrForm,
		"\x02\x01\x00\x1f":         api.ErrForm,
		"\x02\x01\x00\x1e":         api.ErrShort,
		"\x02\x01\x00\x00\x01":     api.ErrForm,
		"\x40\x01\x03\x01\x05":     api.ErrShort,
	} {
		refusesBytes(t, []byte(b), want)
	}
	full := append([]byte{7}, bytes.Repeat([]byte{2, 8, 1, 5}, 600)...)
	gets(t, full, script.Script{Cpus: 7, Evs: slices.Repeat([]api.Ev{{Kind: api.EvTick, N: 5}}, 600)})
	for _, behind := range []string{"\x00", "\x01", "\xff", "\x01\x00", "\x1f\x00"} {
		refusesBytes(t, append(bytes.Clone(full), behind...), api.ErrSize)
	}
	refusesBytes(t, full[:len(full)-1], api.ErrShort)
}

// P31.3: bytes there and back, and bytes of which one is another, is not there, or is too many: what is got, put, is the bytes.
func TestBytesThereAndBack(t *testing.T) {
	pick := picks(31)
	found := 0
	same := func(b []byte) {
		s, why := script.Get(b)
		if why != api.OK {
			refusesBytes(t, b, why)
			return
		}
		found++
		if s.Cpus != int(b[0]) || !bytes.Equal(wire.All(s.Evs...), b[1:]) {
			t.Fatalf("Get(%x) = %+v", b, s)
		}
		gets(t, b, s)
	}
	for n := range 300 {
		cpus := 1 + pick(64)
		s := anyScript(uint64(n), cpus, pick(40))
		puts(t, s, append([]byte{byte(cpus)}, wire.All(s.Evs...)...))
		b, _ := script.Put(s)
		at := pick(len(b))
		other := bytes.Clone(b)
		other[at] = byte(pick(256))
		same(other)
		same(slices.Delete(bytes.Clone(b), at, at+1))
		same(slices.Insert(bytes.Clone(b), at, byte(pick(12))))
		same(b[:at])
	}
	if found == 0 {
		t.Error("none of them is a script")
	}
}

// ran is the trace of events on so many cores.
func ran(t *testing.T, cpus int, l ...api.Ev) []api.Rec {
	t.Helper()
	got, why := script.Run(script.Script{Cpus: cpus, Evs: l})
	if why != api.OK {
		t.Fatalf("Run of %+v: %d", l, why)
	}
	return got
}

// Traces that are written out, record by record.
func TestTraces(t *testing.T) {
	ok := api.Rec{Kind: api.RecRet}
	for n, c := range []struct {
		cpus int
		l    []api.Ev
		want []api.Rec
	}{
		{1, nil, nil},
		{64, []api.Ev{{Kind: api.EvStep, Cpu: 63}}, nil},
		{2, []api.Ev{{Kind: api.EvSpawn, Id: 3, Mask: 1}, {Kind: api.EvStep, Cpu: 1}, {Kind: api.EvStep}, {Kind: api.EvStep}},
			[]api.Rec{{Kind: api.RecRet, Id: 1}, {Kind: api.RecRun, Id: 1}, {Kind: api.RecRun, Id: 1}}},
		{2, []api.Ev{{Kind: api.EvArm, Cpu: 1, N: 5}, {Kind: api.EvTick, N: 10}, {Kind: api.EvStep, Cpu: 1}, {Kind: api.EvStep, Cpu: 1}},
			[]api.Rec{{Kind: api.RecRet, Id: 1}, ok, {Kind: api.RecFire, Cpu: 1, Id: 1}}},
		{1, []api.Ev{{Kind: api.EvOffline}, {Kind: api.EvOnline}, {Kind: api.EvOnline, Cpu: 1}},
			[]api.Rec{{Kind: api.RecRet, Why: api.ErrLast}, {Kind: api.RecRet, Why: api.ErrOnline}, {Kind: api.RecRet, Why: api.ErrRange}}},
		{3, []api.Ev{{Kind: 0}, {Kind: 31}, {Kind: api.EvStep, Cpu: 3}, {Kind: api.EvStep, Cpu: 2}, {Kind: api.EvQueue, Cpu: -1}, {Kind: api.EvStep, Cpu: 2}, {Kind: api.EvStep, Cpu: 2}},
			[]api.Rec{{Kind: api.RecRet, Why: api.ErrArg}, {Kind: api.RecRet, Why: api.ErrArg}, {Kind: api.RecRet, Why: api.ErrRange}, {Kind: api.RecRet, Id: 1}, {Kind: api.RecWork, Cpu: 2, Id: 1}}},
	} {
		if l := ran(t, c.cpus, c.l...); !slices.Equal(l, c.want) {
			t.Errorf("the trace %d is %+v, want %+v", n, l, c.want)
		}
	}
}

// A request is in the trace till it returns, and a stage that fails.
func TestTraceOfARequest(t *testing.T) {
	l := ran(t, 2, append([]api.Ev{{Kind: api.EvFail, N: 7}, {Kind: api.EvOffline, Cpu: 1}}, steps(100, 2)...)...)
	if want := []api.Rec{{Kind: api.RecRet}, {Kind: api.RecRet}, {Kind: api.RecHot, Cpu: 1, Why: api.ErrFail}}; !slices.Equal(l, want) {
		t.Errorf("the trace is %+v, want %+v", l, want)
	}
	l = ran(t, 2, append([]api.Ev{{Kind: api.EvOffline, Cpu: 1}}, steps(100, 2)...)...)
	if want := []api.Rec{{Kind: api.RecRet}, {Kind: api.RecHot, Cpu: 1}}; !slices.Equal(l, want) {
		t.Errorf("the trace is %+v, want %+v", l, want)
	}
}

// P31.2, P31.4, P31.5: long scripts, their traces by their bytes, and those of their first events.
func TestLongScripts(t *testing.T) {
	var kinds [8]int
	for n, cpus := range []int{1, 2, 2, 3, 5, 16, 63, 64} {
		s := anyScript(uint64(310+n), cpus, 600)
		want := plainTrace(t, s)
		runs(t, s, want)
		puts(t, s, append([]byte{byte(cpus)}, wire.All(s.Evs...)...))
		for _, r := range want {
			kinds[r.Kind]++
		}
		for many := 0; many <= 600; many += 1 + n*3 {
			first := ran(t, cpus, s.Evs[:many]...)
			if len(first) > len(want) || !slices.Equal(first, want[:len(first)]) {
				t.Fatalf("the trace of %d events is %+v, that of all is %+v", many, first, want)
			}
		}
	}
	for _, kind := range []int{api.RecRet, api.RecRun, api.RecFire, api.RecHandle, api.RecWork, api.RecCall, api.RecHot} {
		if kinds[kind] == 0 {
			t.Errorf("there is no record %d", kind)
		}
	}
}

// Each run has a kernel of its own: what ran ahead is not seen in it.
func TestRunsStandAlone(t *testing.T) {
	spawn := []api.Ev{{Kind: api.EvSpawn, Mask: 1}, {Kind: api.EvWhere, Id: 1}}
	want := []api.Rec{{Kind: api.RecRet, Id: 1}, {Kind: api.RecRet}}
	for range 3 {
		if l := ran(t, 1, spawn...); !slices.Equal(l, want) {
			t.Fatalf("the trace is %+v, want %+v", l, want)
		}
	}
}

func TestSame(t *testing.T) {
	base := script.Script{Cpus: 2, Evs: []api.Ev{{Kind: 1, Cpu: 2, Id: 3, Mask: 4, N: 5}, {Kind: 6, Cpu: 7, Id: 8, Mask: 9, N: 10}}}
	same := func(a, b script.Script, want bool) {
		t.Helper()
		keptA, keptB := copied(a), copied(b)
		if script.Same(a, b) != want || script.Same(b, a) != want {
			t.Errorf("Same(%+v, %+v) is not %v", a, b, want)
		}
		if !slices.Equal(a.Evs, keptA.Evs) || !slices.Equal(b.Evs, keptB.Evs) {
			t.Errorf("Same changed %+v to %+v, or %+v to %+v", keptA, a, keptB, b)
		}
	}
	same(base, base, true)
	same(base, copied(base), true)
	same(script.Script{}, script.Script{}, true)
	same(script.Script{Cpus: 1}, script.Script{Cpus: 1, Evs: []api.Ev{}}, true)
	// Scripts that can not be are alike, or not, as others are.
	same(script.Script{Cpus: -1, Evs: make([]api.Ev, 601)}, script.Script{Cpus: -1, Evs: make([]api.Ev, 601)}, true)
	same(script.Script{Cpus: -1}, script.Script{Cpus: -2}, false)
	same(script.Script{Evs: make([]api.Ev, 601)}, script.Script{Evs: make([]api.Ev, 602)}, false)
	same(script.Script{Cpus: 1}, script.Script{Cpus: 1, Evs: make([]api.Ev, 1)}, false)
	same(base, script.Script{Cpus: 3, Evs: base.Evs}, false)
	same(base, script.Script{Cpus: 2 + 1<<32, Evs: base.Evs}, false)
	same(base, script.Script{Cpus: 2, Evs: base.Evs[:1]}, false)
	same(base, script.Script{Cpus: 2, Evs: base.Evs[1:]}, false)
	same(base, script.Script{Cpus: 2}, false)
	same(base, script.Script{Cpus: 2, Evs: append(slices.Clone(base.Evs), api.Ev{})}, false)
	same(base, script.Script{Cpus: 2, Evs: []api.Ev{base.Evs[1], base.Evs[0]}}, false)
	for at := range base.Evs {
		for field := range 5 {
			other := copied(base)
			e := &other.Evs[at]
			switch field {
			case 0:
				e.Kind += 1 << 40
			case 1:
				e.Cpu = -e.Cpu
			case 2:
				e.Id++
			case 3:
				e.Mask |= 1 << 63
			case 4:
				e.N += 1 << 32
			}
			same(base, other, false)
		}
	}
}

// What is written into an answer, or appended to it, or into what was handed in, is in no later one.
func TestAnswersAreTheCallers(t *testing.T) {
	s := script.Script{Cpus: 2, Evs: []api.Ev{{Kind: api.EvSpawn, Mask: 1}, {Kind: api.EvStep}}}
	want := []byte{2, 3, 4, 1, 1, 1, 0}
	b, _ := script.Put(s)
	got, _ := script.Get(b)
	l, _ := script.Run(s)
	clear(b)
	_ = append(b, 9)
	if !script.Same(got, s) {
		t.Errorf("Get kept the bytes that it was handed: %+v", got)
	}
	clear(got.Evs)
	_ = append(got.Evs, api.Ev{Kind: 9})
	clear(l)
	_ = append(l, api.Rec{Kind: 9})
	puts(t, s, want)
	runs(t, s, []api.Rec{{Kind: api.RecRet, Id: 1}, {Kind: api.RecRun, Id: 1}})
	b, _ = script.Put(s)
	l, _ = script.Run(s)
	clear(s.Evs)
	if !bytes.Equal(b, want) || l[1] != (api.Rec{Kind: api.RecRun, Id: 1}) {
		t.Errorf("what was handed in was kept: %x, %+v", b, l)
	}
}
