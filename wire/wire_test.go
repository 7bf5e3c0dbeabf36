package wire_test

import (
	"bytes"
	"math"
	"math/big"
	"slices"
	"testing"

	"davit/api"
	"davit/wire"
)

const (
	least    = math.MinInt64
	greatest = math.MaxInt64
)

// forms are events and their bytes.
var forms = []struct {
	e api.Ev
	b string
}{
	{api.Ev{Kind: api.EvTick, N: 200}, "\x02\x08\x02\x00\xc8"},
	{api.Ev{Kind: api.EvStep}, "\x01\x00"},
	{api.Ev{Kind: api.EvBalance}, "\x1e\x00"},
	{api.Ev{Kind: api.EvQueue, Cpu: -1}, "\x12\x01\x01\xff"},
	{api.Ev{Kind: api.EvStep, Cpu: 5}, "\x01\x01\x01\x05"},
	{api.Ev{Kind: api.EvExit, Id: 32}, "\x04\x02\x01\x20"},
	{api.Ev{Kind: api.EvSpawn, Id: 7, Mask: 3}, "\x03\x06\x01\x07\x01\x03"},
	{api.Ev{Kind: api.EvAffin, Mask: 1 << 63}, "\x08\x04\x08\x80\x00\x00\x00\x00\x00\x00\x00"},
	{api.Ev{Kind: api.EvAffin, Mask: 1<<63 - 1}, "\x08\x04\x08\x7f\xff\xff\xff\xff\xff\xff\xff"},
	{api.Ev{Kind: api.EvAffin, Mask: math.MaxUint64}, "\x08\x04\x01\xff"},
	{api.Ev{Kind: api.EvAffin, Mask: math.MaxUint64 - 127}, "\x08\x04\x01\x80"},
	{api.Ev{Kind: api.EvAffin, Mask: math.MaxUint64 - 128}, "\x08\x04\x02\xff\x7f"},
	{api.Ev{Kind: api.EvTick, N: least}, "\x02\x08\x08\x80\x00\x00\x00\x00\x00\x00\x00"},
	{api.Ev{Kind: api.EvTick, N: greatest}, "\x02\x08\x08\x7f\xff\xff\xff\xff\xff\xff\xff"},
	{api.Ev{Kind: api.EvTick, N: api.MaxTick}, "\x02\x08\x08\x10\x00\x00\x00\x00\x00\x00\x00"},
	{api.Ev{Kind: api.EvTick, N: api.MaxDelay}, "\x02\x08\x04\x40\x00\x00\x00"},
	{api.Ev{Kind: api.EvTick, N: 127}, "\x02\x08\x01\x7f"},
	{api.Ev{Kind: api.EvTick, N: 128}, "\x02\x08\x02\x00\x80"},
	{api.Ev{Kind: api.EvTick, N: 255}, "\x02\x08\x02\x00\xff"},
	{api.Ev{Kind: api.EvTick, N: 256}, "\x02\x08\x02\x01\x00"},
	{api.Ev{Kind: api.EvTick, N: -128}, "\x02\x08\x01\x80"},
	{api.Ev{Kind: api.EvTick, N: -129}, "\x02\x08\x02\xff\x7f"},
	{api.Ev{Kind: api.EvTick, N: 1 << 32}, "\x02\x08\x05\x01\x00\x00\x00\x00"},
	{api.Ev{Kind: api.EvSpeed, Id: 100, N: 1000}, "\x1d\x0a\x01\x64\x02\x03\xe8"},
	{api.Ev{Kind: api.EvGive, Cpu: 63, Id: 96}, "\x16\x03\x01\x3f\x01\x60"},
	{api.Ev{Kind: 30, Cpu: 127, Id: 128, Mask: math.MaxUint64, N: -128}, "\x1e\x0f\x01\x7f\x02\x00\x80\x01\xff\x01\x80"},
}

// numbers has, for each count of bytes, the least and the greatest number that fits, those beside them, and some between.
func numbers() []int64 {
	list := []int64{0, 1, -1, 2, -2, 200, -200, 65535, 65536, api.MaxDelay, api.MaxTick}
	for count := 1; count <= 8; count++ {
		high := int64(uint64(1)<<(8*count-1) - 1)
		low := -high - 1
		list = append(list, high-1, high, low, low+1, high/3, low/3)
		if count < 8 {
			list = append(list, high+1, low-1)
		}
	}
	return list
}

// fewest is the fewest bytes in which a number fits with its sign, in numbers of any size.
func fewest(n int64) int {
	for count := uint(1); ; count++ {
		bound := new(big.Int).Lsh(big.NewInt(1), 8*count-1)
		if wide := big.NewInt(n); wide.Cmp(bound) < 0 && wide.Cmp(bound.Neg(bound)) >= 0 {
			return int(count)
		}
	}
}

// plainPut is what Put must be of a kind that is one.
func plainPut(e api.Ev) []byte {
	sum, rest := 0, []byte{}
	for i, n := range []int64{int64(e.Cpu), int64(e.Id), int64(e.Mask), e.N} {
		if n == 0 {
			continue
		}
		sum += []int{1, 2, 4, 8}[i]
		count := fewest(n)
		rest = append(rest, byte(count))
		// As a number without a sign it is counted from 2^64 down, if it is below 0.
		whole := new(big.Int).SetUint64(uint64(n)).FillBytes(make([]byte, 8))
		rest = append(rest, whole[8-count:]...)
	}
	return append([]byte{byte(e.Kind), byte(sum)}, rest...)
}

// plainGet is what Get must be, byte by byte.
func plainGet(b []byte) (api.Ev, int, api.Errno) {
	at := 0
	next := func() (int, bool) {
		if at == len(b) {
			return 0, false
		}
		at++
		return int(b[at-1]), true
	}
	kind, ok := next()
	if !ok {
		return api.Ev{}, 0, api.ErrShort
	}
	if kind == 0 || kind > 30 {
		return api.Ev{}, 0, api.ErrForm
	}
	sum, ok := next()
	if !ok {
		return api.Ev{}, 0, api.ErrShort
	}
	if sum >= 16 {
		return api.Ev{}, 0, api.ErrForm
	}
	field := [4]*big.Int{}
	for i := range field {
		field[i] = new(big.Int)
		if sum/[]int{1, 2, 4, 8}[i]%2 == 0 {
			continue
		}
		count, ok := next()
		if !ok {
			return api.Ev{}, 0, api.ErrShort
		}
		if count == 0 || count > 8 {
			return api.Ev{}, 0, api.ErrForm
		}
		for k := range count {
			one, ok := next()
			if !ok {
				return api.Ev{}, 0, api.ErrShort
			}
			if k == 0 && one >= 128 {
				one -= 256
			}
			field[i].Mul(field[i], big.NewInt(256))
			field[i].Add(field[i], big.NewInt(int64(one)))
		}
		if field[i].Sign() == 0 || fewest(field[i].Int64()) != count {
			return api.Ev{}, 0, api.ErrForm
		}
	}
	return api.Ev{Kind: kind, Cpu: int(field[0].Int64()), Id: int(field[1].Int64()), Mask: uint64(field[2].Int64()), N: field[3].Int64()}, at, api.OK
}

// gets says what Get answers.
func gets(t *testing.T, b []byte, want api.Ev, size int, wantWhy api.Errno) {
	t.Helper()
	kept := bytes.Clone(b)
	if e, n, why := wire.Get(b); e != want || n != size || why != wantWhy {
		t.Fatalf("Get(%x) = %+v, %d, %d, want %+v, %d, %d", b, e, n, why, want, size, wantWhy)
	}
	if !bytes.Equal(b, kept) {
		t.Fatalf("Get changed %x to %x", kept, b)
	}
}

// fails says that Get, and Read, answer an error, and nothing beside it.
func fails(t *testing.T, b string, want api.Errno) {
	t.Helper()
	gets(t, []byte(b), api.Ev{}, 0, want)
	if b == "" {
		return
	}
	if l, why := wire.Read([]byte(b)); len(l) != 0 || why != want {
		t.Fatalf("Read(%x) = %v, %d, want %d", b, l, why, want)
	}
}

func TestForms(t *testing.T) {
	for _, f := range forms {
		if b := wire.Put(f.e); string(b) != f.b {
			t.Errorf("Put(%+v) = %x, want %x", f.e, b, f.b)
		}
		gets(t, []byte(f.b), f.e, len(f.b), api.OK)
	}
}

func TestPutOfAllKinds(t *testing.T) {
	for kind := -300; kind <= 600; kind++ {
		e := api.Ev{Kind: kind, Cpu: 1, N: 2}
		b := wire.Put(e)
		if kind < 1 || kind > 30 {
			if len(b) != 0 {
				t.Errorf("Put(%+v) = %x", e, b)
			}
			continue
		}
		if !bytes.Equal(b, []byte{byte(kind), 9, 1, 1, 1, 2}) {
			t.Errorf("Put(%+v) = %x", e, b)
		}
		gets(t, b, e, len(b), api.OK)
	}
	for _, kind := range []int{math.MinInt, -1 << 32, 1 << 32, 1<<32 + 1, 1<<40 + 30, math.MaxInt} {
		if b := wire.Put(api.Ev{Kind: kind}); len(b) != 0 {
			t.Errorf("Put of the kind %d = %x", kind, b)
		}
	}
}

// TestEachNumberInEachField: at the edges of each count of bytes, alone and among others.
func TestEachNumberInEachField(t *testing.T) {
	for _, n := range numbers() {
		for _, other := range []int64{0, 1, -129, greatest} {
			for _, e := range []api.Ev{
				{Kind: 1, Cpu: int(n), Id: int(other), Mask: uint64(other), N: other},
				{Kind: 12, Cpu: int(other), Id: int(n), Mask: uint64(other), N: other},
				{Kind: 29, Cpu: int(other), Id: int(other), Mask: uint64(n), N: other},
				{Kind: 30, Cpu: int(other), Id: int(other), Mask: uint64(other), N: n},
			} {
				b := wire.Put(e)
				if want := plainPut(e); !bytes.Equal(b, want) {
					t.Fatalf("Put(%+v) = %x, want %x", e, b, want)
				}
				gets(t, b, e, len(b), api.OK)
			}
		}
	}
}

// TestGetWithAnythingBehind: what follows of an event's bytes, be it an event or not, does not count.
func TestGetWithAnythingBehind(t *testing.T) {
	for _, f := range forms {
		for _, behind := range []string{"\x00", "\xff", "more", "\x01", "\x01\x00", f.b, f.b[:1]} {
			gets(t, []byte(f.b+behind), f.e, len(f.b), api.OK)
		}
	}
}

// TestTooFewBytes: of each event, as soon as one is wanting.
func TestTooFewBytes(t *testing.T) {
	for _, f := range forms {
		for size := range len(f.b) {
			fails(t, f.b[:size], api.ErrShort)
		}
	}
	gets(t, nil, api.Ev{}, 0, api.ErrShort)
	for count := 1; count <= 8; count++ {
		fails(t, "\x01\x01"+string([]byte{byte(count)}), api.ErrShort)
	}
}

func TestNoEvent(t *testing.T) {
	for one := range 256 {
		head := string([]byte{byte(one)})
		if one < 1 || one > 30 {
			// It is no kind, whatever follows, and though nothing does.
			fails(t, head, api.ErrForm)
			fails(t, head+"\x00", api.ErrForm)
			fails(t, head+"\xff", api.ErrForm)
		} else {
			fails(t, head, api.ErrShort)
		}
		if one > 15 {
			fails(t, "\x01"+head, api.ErrForm)
			fails(t, "\x01"+head+"\x01\x01\x01\x01\x01\x01\x01\x01", api.ErrForm)
		} else if one > 0 {
			fails(t, "\x01"+head, api.ErrShort)
		}
		if one < 1 || one > 8 {
			for _, sum := range []string{"\x01", "\x02", "\x04", "\x08"} {
				fails(t, "\x01"+sum+head, api.ErrForm)
				fails(t, "\x01"+sum+head+"\x01\x01\x01\x01\x01\x01\x01\x01\x01\x01", api.ErrForm)
			}
			fails(t, "\x01\x0f\x01\x01\x01\x01\x01\x01"+head, api.ErrForm)
		}
	}
}

// TestNotTheFewest: a number with one byte more than it needs, or several; and a 0 of each count.
func TestNotTheFewest(t *testing.T) {
	for _, n := range numbers() {
		for count := fewest(n); count <= 8; count++ {
			whole := new(big.Int).SetUint64(uint64(n)).FillBytes(make([]byte, 8))
			for i, sum := range []string{"\x01", "\x02", "\x04", "\x08"} {
				b := "\x05" + sum + string([]byte{byte(count)}) + string(whole[8-count:])
				if n == 0 || count > fewest(n) {
					fails(t, b, api.ErrForm)
					fails(t, b+"\x00\x00", api.ErrForm)
					continue
				}
				want := []api.Ev{{Kind: 5, Cpu: int(n)}, {Kind: 5, Id: int(n)}, {Kind: 5, Mask: uint64(n)}, {Kind: 5, N: n}}[i]
				gets(t, []byte(b), want, len(b), api.OK)
			}
		}
	}
}

// TestWhichErrorIsSeenFirst: the first fault counts, though there is another one behind it.
func TestWhichErrorIsSeenFirst(t *testing.T) {
	for _, c := range []struct {
		b    string
		want api.Errno
	}{
		{"\x00\x10", api.ErrForm},
		{"\x01\x10\x00", api.ErrForm},
		{"\x01\x03\x01\x00", api.ErrForm},
		{"\x01\x03\x02\x00\x7f", api.ErrForm},
		{"\x01\x03\x00", api.ErrForm},
		{"\x01\x03\x01\x05", api.ErrShort},
		{"\x01\x03\x01\x05\x00", api.ErrForm},
		{"\x01\x03\x01\x05\x02\x01", api.ErrShort},
		{"\x01\x03\x01\x05\x02\xff\xff", api.ErrForm},
		// The count says that a byte is wanting before the bytes that are there are looked at.
		{"\x01\x01\x03\x00\x01", api.ErrShort},
		{"\x01\x01\x03\xff\xff", api.ErrShort},
		{"\x01\x01\x08\x00\x00\x00\x00\x00\x00\x00", api.ErrShort},
		{"\x01\x01\x08\x00\x00\x00\x00\x00\x00\x00\x00", api.ErrForm},
	} {
		fails(t, c.b, c.want)
	}
}

// same holds Get against the plain one, and what is got, put, against the bytes that it has.
func same(t *testing.T, b []byte) api.Errno {
	t.Helper()
	e, size, why := plainGet(b)
	gets(t, b, e, size, why)
	if why == api.OK && !bytes.Equal(wire.Put(e), b[:size]) {
		t.Fatalf("Put(Get(%x)) = %x", b, wire.Put(e))
	}
	return why
}

// TestAllShortBytes: all of up to five bytes of those that stand at an edge of something.
func TestAllShortBytes(t *testing.T) {
	edges := []byte{0x00, 0x01, 0x02, 0x03, 0x08, 0x09, 0x0f, 0x10, 0x1e, 0x1f, 0x7f, 0x80, 0xff}
	found := 0
	var tryAll func(b []byte)
	tryAll = func(b []byte) {
		if same(t, b) == api.OK {
			found++
		}
		if len(b) == 5 {
			return
		}
		for _, one := range edges {
			tryAll(append(b, one))
		}
	}
	tryAll(make([]byte, 0, 5))
	if found == 0 {
		t.Error("none of them is an event")
	}
}

// picks makes numbers by a fixed rule.
func picks(state uint64) func(n int) int {
	return func(n int) int {
		state = state*6364136223846793005 + 1442695040888963407
		return int(state>>33) % n
	}
}

// anyEvent is one of any kind that is one, with numbers of all sizes.
func anyEvent(pick func(n int) int) api.Ev {
	some := func() int64 {
		if pick(3) == 0 {
			return 0
		}
		n := int64(pick(1<<30))<<34 ^ int64(pick(1<<30))<<8 ^ int64(pick(256))
		if pick(2) == 0 {
			n = ^n
		}
		return n >> pick(64)
	}
	return api.Ev{Kind: 1 + pick(30), Cpu: int(some()), Id: int(some()), Mask: uint64(some()), N: some()}
}

// TestAnyEvents: what follows, of events of all sizes, and of their bytes with one of them changed, taken out, or put in.
func TestAnyEvents(t *testing.T) {
	pick := picks(26)
	for range 20000 {
		e := anyEvent(pick)
		b := wire.Put(e)
		if want := plainPut(e); !bytes.Equal(b, want) {
			t.Fatalf("Put(%+v) = %x, want %x", e, b, want)
		}
		gets(t, b, e, len(b), api.OK)
		gets(t, append(bytes.Clone(b), byte(pick(256)), byte(pick(256))), e, len(b), api.OK)
		at := pick(len(b))
		changed := bytes.Clone(b)
		changed[at] = byte(pick(256))
		same(t, changed)
		same(t, slices.Delete(bytes.Clone(b), at, at+1))
		same(t, slices.Insert(bytes.Clone(b), at, byte(pick(12))))
	}
}

// reads says what Read answers of bytes that are events.
func reads(t *testing.T, b []byte, want []api.Ev) {
	t.Helper()
	kept := bytes.Clone(b)
	if l, why := wire.Read(b); !slices.Equal(l, want) || why != api.OK {
		t.Fatalf("Read(%x) = %v, %d, want %v", b, l, why, want)
	}
	if !bytes.Equal(b, kept) {
		t.Fatalf("Read changed %x to %x", kept, b)
	}
}

// refuses says which error Read answers, and nothing beside it.
func refuses(t *testing.T, b []byte, want api.Errno) {
	t.Helper()
	if l, why := wire.Read(b); len(l) != 0 || why != want {
		t.Fatalf("Read(%x) = %v, %d, want %d", b, l, why, want)
	}
}

func TestAllAndRead(t *testing.T) {
	reads(t, nil, nil)
	reads(t, []byte{}, nil)
	if b := wire.All(); len(b) != 0 {
		t.Errorf("All() = %x", b)
	}
	var l []api.Ev
	b := ""
	for _, f := range forms {
		l, b = append(l, f.e), b+f.b
		kept := slices.Clone(l)
		if got := wire.All(l...); string(got) != b {
			t.Fatalf("All(%v) = %x, want %x", l, got, b)
		}
		if !slices.Equal(l, kept) {
			t.Fatalf("All changed %v to %v", kept, l)
		}
		reads(t, []byte(b), l)
	}
	pick := picks(5)
	for range 300 {
		l, b := []api.Ev{}, []byte{}
		for range pick(30) {
			e := anyEvent(pick)
			l, b = append(l, e), append(b, plainPut(e)...)
		}
		if got := wire.All(l...); !bytes.Equal(got, b) {
			t.Fatalf("All(%v) = %x, want %x", l, got, b)
		}
		reads(t, b, l)
	}
}

// TestAllOfNoKinds: an event without bytes is left out.
func TestAllOfNoKinds(t *testing.T) {
	none, tick := api.Ev{Kind: 31, N: 5}, api.Ev{Kind: api.EvTick, N: 200}
	if b := wire.All(none, tick, api.Ev{}, tick, api.Ev{Kind: -1}); string(b) != "\x02\x08\x02\x00\xc8\x02\x08\x02\x00\xc8" {
		t.Errorf("All = %x", b)
	}
	if b := wire.All(none, none); len(b) != 0 {
		t.Errorf("All = %x", b)
	}
}

// TestReadTellsTheFirstError: of the first event that is none.
func TestReadTellsTheFirstError(t *testing.T) {
	refuses(t, []byte("\x01\x00\x01"), api.ErrShort)
	refuses(t, []byte("\x01\x00\x00"), api.ErrForm)
	refuses(t, []byte("\x01\x00\x01\x01\x01\x00\x01"), api.ErrForm)
	refuses(t, []byte("\x01\x00\x1f\x01\x00\x01"), api.ErrForm)
	refuses(t, []byte("\x02\x08\x02\x00\xc8\x02\x08\x02\x00"), api.ErrShort)
	for _, f := range forms {
		for size := 1; size < len(f.b); size++ {
			refuses(t, []byte("\x01\x00"+f.b[:size]), api.ErrShort)
		}
	}
}

// TestReadOfTooMany: 600 can be; any byte behind them is one more, be it an event or not; a fault among them goes ahead.
func TestReadOfTooMany(t *testing.T) {
	pick := picks(600)
	var l []api.Ev
	for range api.MaxScript {
		l = append(l, anyEvent(pick))
	}
	full := wire.All(l...)
	reads(t, full, l)
	reads(t, wire.All(l[1:]...), l[1:])
	for _, behind := range []string{"\x01\x00", "\x01", "\x00", "\xff", "\x1e\x0f\x01\x7f\x02\x00\x80\x01\xff\x01\x80", "\x01\x01\x01\x00", "\x01\x00\x01\x00"} {
		refuses(t, append(bytes.Clone(full), behind...), api.ErrSize)
	}
	refuses(t, append([]byte("\x00"), full...), api.ErrForm)
	short := wire.All(l[1:]...)
	refuses(t, append(bytes.Clone(short), 0), api.ErrForm)
	refuses(t, append(bytes.Clone(short), 1), api.ErrShort)
	refuses(t, append(append(bytes.Clone(short), 1, 1, 1, 0), full...), api.ErrForm)
	refuses(t, bytes.Repeat([]byte{1, 0}, 100000), api.ErrSize)
}

// TestAnswersAreTheCallers: what is written into an answer, or appended to it, is in no later one, nor in what was handed in.
func TestAnswersAreTheCallers(t *testing.T) {
	for _, f := range forms {
		b := wire.Put(f.e)
		for at := range b {
			b[at] = 0xee
		}
		_ = append(b, 0xee)
		if again := wire.Put(f.e); string(again) != f.b {
			t.Fatalf("Put(%+v) = %x, want %x", f.e, again, f.b)
		}
		both := []byte(f.b + f.b)
		l, _ := wire.Read(both)
		l[0] = api.Ev{Kind: 9}
		_ = append(l, api.Ev{Kind: 9})
		reads(t, both, []api.Ev{f.e, f.e})
		clear(both)
		if l[1] != f.e {
			t.Fatalf("Read kept the bytes that it was handed: %+v", l[1])
		}
		one := wire.All(f.e)
		clear(one)
		_ = append(one, 1)
		if again := wire.All(f.e); string(again) != f.b {
			t.Fatalf("All(%+v) = %x, want %x", f.e, again, f.b)
		}
	}
}
