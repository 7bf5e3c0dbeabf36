package show_test

import (
	"fmt"
	"math"
	"slices"
	"strings"
	"testing"

	"davit/api"
	"davit/kernel"
	"davit/show"
)

const (
	least    = math.MinInt64
	greatest = math.MaxInt64
)

// lines are records, of each kind one at least, and their lines.
var lines = []struct {
	r    api.Rec
	line string
}{
	{api.Rec{Kind: api.RecRet}, "ret"},
	{api.Rec{Kind: api.RecRun}, "run"},
	{api.Rec{Kind: api.RecFire}, "fire"},
	{api.Rec{Kind: api.RecHandle}, "handle"},
	{api.Rec{Kind: api.RecWork}, "work"},
	{api.Rec{Kind: api.RecCall}, "call"},
	{api.Rec{Kind: api.RecHot}, "hot"},
	// Each field by itself, as kernels tell it.
	{api.Rec{Kind: api.RecRet, Id: 5}, "ret i5"},
	{api.Rec{Kind: api.RecRet, Why: api.ErrBusy}, "ret e7"},
	{api.Rec{Kind: api.RecHandle, Cpu: 1}, "handle c1"},
	{api.Rec{Kind: api.RecRet, N: 9}, "ret n9"},
	// Several fields, and all of them, with a 0 between, ahead, or behind.
	{api.Rec{Kind: api.RecFire, Cpu: 2, Id: 5}, "fire c2 i5"},
	{api.Rec{Kind: api.RecFire, Cpu: 2, Id: 5, N: -3}, "fire c2 i5 n-3"},
	{api.Rec{Kind: api.RecHot, Cpu: 1, Why: api.ErrFail}, "hot c1 e11"},
	{api.Rec{Kind: api.RecWork, Cpu: 10, N: 100}, "work c10 n100"},
	{api.Rec{Kind: api.RecRun, Id: 32, Why: 17}, "run i32 e17"},
	{api.Rec{Kind: api.RecCall, N: 7, Why: 1}, "call n7 e1"},
	{api.Rec{Kind: api.RecCall, Cpu: 1, Id: 2, N: 3, Why: 4}, "call c1 i2 n3 e4"},
	{api.Rec{Kind: api.RecWork, Cpu: -1, Id: -2, N: -3, Why: -4}, "work c-1 i-2 n-3 e-4"},
	{api.Rec{Kind: api.RecRet, Why: 18}, "ret e18"},
	// Numbers at both ends of their range.
	{api.Rec{Kind: api.RecRet, Cpu: greatest}, "ret c9223372036854775807"},
	{api.Rec{Kind: api.RecRet, Cpu: least}, "ret c-9223372036854775808"},
	{api.Rec{Kind: api.RecRun, Id: greatest}, "run i9223372036854775807"},
	{api.Rec{Kind: api.RecRun, Id: least}, "run i-9223372036854775808"},
	{api.Rec{Kind: api.RecFire, N: greatest}, "fire n9223372036854775807"},
	{api.Rec{Kind: api.RecFire, N: least}, "fire n-9223372036854775808"},
	{api.Rec{Kind: api.RecHot, Why: greatest}, "hot e9223372036854775807"},
	{api.Rec{Kind: api.RecHot, Why: least}, "hot e-9223372036854775808"},
	{api.Rec{Kind: api.RecHandle, Cpu: least, Id: greatest, N: least, Why: greatest}, "handle c-9223372036854775808 i9223372036854775807 n-9223372036854775808 e9223372036854775807"},
}

// tells says what Back answers of a line, and, if it is a record, that this one's line is the same.
func tells(t *testing.T, line string, want api.Rec, wantWhy api.Errno) {
	t.Helper()
	r, why := show.Back(line)
	if r != want || why != wantWhy {
		t.Fatalf("Back(%q) = %+v, %d, want %+v, %d", line, r, why, want, wantWhy)
	}
	if why != api.OK {
		return
	}
	if again := show.Line(r); again != line {
		t.Fatalf("Line(Back(%q)) = %q", line, again)
	}
}

// none says that a line is no record's.
func none(t *testing.T, line string) {
	t.Helper()
	tells(t, line, api.Rec{}, api.ErrForm)
}

// writes says what Line answers, and that Back of it is the record.
func writes(t *testing.T, r api.Rec, want string) {
	t.Helper()
	if line := show.Line(r); line != want {
		t.Fatalf("Line(%+v) = %q, want %q", r, line, want)
	}
	tells(t, want, r, api.OK)
}

func TestLines(t *testing.T) {
	for _, l := range lines {
		writes(t, l.r, l.line)
		if plain := plainLine(l.r); plain != l.line {
			t.Fatalf("the plain one writes %+v as %q", l.r, plain)
		}
	}
}

func TestAKindThatIsNone(t *testing.T) {
	all := []int{math.MinInt, -1 << 32, 1 << 32, 1<<32 + 1, 1<<40 + 7, math.MaxInt}
	for kind := -300; kind <= 600; kind++ {
		if kind < 1 || kind > 7 {
			all = append(all, kind)
		}
	}
	for _, kind := range all {
		for _, r := range []api.Rec{{Kind: kind}, {Kind: kind, Cpu: 1, Id: 2, N: 3, Why: 4}} {
			if line := show.Line(r); line != "" {
				t.Errorf("Line(%+v) = %q", r, line)
			}
		}
	}
}

// Of each kind, each field by itself, and beside others, at numbers of all sizes; where it is 0 it is not told.
func TestEachFieldOfEachKind(t *testing.T) {
	numbers := []int64{0, 1, -1, 9, 10, -10, 63, 64, 99, 100, 255, 1 << 31, 1<<31 - 1, 1 << 32, -1 << 31, -1 << 32, api.MaxTick, 1e18, greatest, greatest - 1, least, least + 1}
	for kind := 1; kind <= 7; kind++ {
		for field, letter := range []string{"c", "i", "n", "e"} {
			for _, n := range numbers {
				for _, other := range []int64{0, 7} {
					of := [4]int64{other, other, other, other}
					of[field] = n
					r := api.Rec{Kind: kind, Cpu: int(of[0]), Id: int(of[1]), N: of[2], Why: api.Errno(of[3])}
					writes(t, r, plainLine(r))
					if tells := strings.Contains(plainLine(r), " "+letter); tells != (n != 0) {
						t.Fatalf("the plain one writes %+v as %q", r, plainLine(r))
					}
				}
			}
		}
	}
}

// Each two letters, in order and out of it, the same one twice, too.
func TestOrder(t *testing.T) {
	letters := "cine"
	for first := range letters {
		none(t, fmt.Sprintf("ret %c", letters[first]))
		for second := range letters {
			line := fmt.Sprintf("ret %c1 %c2", letters[first], letters[second])
			want, why := plainBack(line)
			if (why == api.OK) != (first < second) {
				t.Fatalf("the plain one answers %q by %d", line, why)
			}
			tells(t, line, want, why)
			for third := range letters {
				line := fmt.Sprintf("%s %c3", line, letters[third])
				want, why := plainBack(line)
				tells(t, line, want, why)
			}
		}
		none(t, fmt.Sprintf("ret %c1 %c1", letters[first], letters[first]))
		none(t, fmt.Sprintf("ret %c1 %c0", letters[first], letters[first]))
		none(t, fmt.Sprintf("ret %c0 %c1", letters[first], letters[first]))
	}
	none(t, "ret e4 n3 i2 c1")
	none(t, "ret c1 i2 n3 e4 c1")
	none(t, "ret c1 i2 n3 e4 e4")
	none(t, "c1 ret")
	none(t, "ret ret")
	none(t, "ret run")
	none(t, "ret c1 run")
	none(t, "ret c1 ret i1")
}

// Words that are no number of a field, behind each letter.
func TestNoNumber(t *testing.T) {
	for _, word := range []string{
		"", "0", "-0", "+0", "00", "-", "+", "+1", "01", "-01", "007", "--1", "+-1", "1-", "1+", "0x1", "0b1", "0o7", "1_0", "_1", "1e3", "1.0", ".5", "1.", "1,2", ",", "a", "c", "c1", "none", "nil", "=1", ":1", " 1", "\t1", "1\t", "1\n", "1\r", "\n1", "\x001", "1\x00", "\xff", "\u0661", "\uff11", "\u22121", "1\u00a0", "Inf", "NaN",
		"9223372036854775808", "-9223372036854775809", "18446744073709551615", "18446744073709551616", "18446744073709551617", "99999999999999999999", "-99999999999999999999", "09223372036854775807", "100000000000000000000000000000000000000", strings.Repeat("1", 5000), strings.Repeat("0", 5000) + "1",
	} {
		for _, letter := range []string{"c", "i", "n", "e"} {
			none(t, "ret "+letter+word)
			none(t, "hot "+letter+word+" e1")
			none(t, "hot c1 "+letter+word)
		}
	}
	for _, word := range []string{"1", "-1", "10", "-10", "9223372036854775807", "-9223372036854775808"} {
		for _, letter := range []string{"c", "i", "n", "e"} {
			line := "ret " + letter + word
			want, why := plainBack(line)
			if why != api.OK {
				t.Fatalf("the plain one refuses %q", line)
			}
			tells(t, line, want, api.OK)
		}
	}
}

func TestNoLetter(t *testing.T) {
	for letter := range 256 {
		line := "ret " + string([]byte{byte(letter)}) + "1"
		if strings.IndexByte("cine", byte(letter)) < 0 {
			none(t, line)
		} else if _, why := show.Back(line); why != api.OK {
			t.Errorf("Back(%q) = %d", line, why)
		}
	}
	for _, word := range []string{"x1", "C1", "I1", "N1", "E1", "1", "-1", "cpu1", "id1", "cc1", "ci1", "1c", "\u04411", "why1", "k1", "m1"} {
		none(t, "ret "+word)
		none(t, "ret c1 "+word)
	}
}

func TestNoKind(t *testing.T) {
	for _, word := range kinds {
		for _, other := range []string{word + "s", word[1:], word[:len(word)-1], strings.ToUpper(word), strings.ToUpper(word[:1]) + word[1:], word + "\n", word + "\x00", word + "1", word + word, word + ",", "\n" + word} {
			none(t, other)
			none(t, other+" c1")
		}
	}
	for _, line := range []string{"", " ", "  ", "\n", "\x00", "\xff\xfe", "0", "1", "8", "zz", "c1", " c1", "c1 i2", "#", "# ret", "none", "quiet", "error 13", "step 0", "\u0433et", strings.Repeat("ret", 1000), strings.Repeat(" ", 1000), strings.Repeat("ret ", 1000), strings.Repeat("ret\n", 2), strings.Repeat("c1 ", 1000)} {
		none(t, line)
	}
}

// Each line with a blank too many, in each place, with one too few, or with another thing than a blank.
func TestBlanks(t *testing.T) {
	for _, l := range lines {
		for at := 0; at <= len(l.line); at++ {
			none(t, l.line[:at]+" "+l.line[at:])
		}
		for at := range l.line {
			if l.line[at] != ' ' {
				continue
			}
			none(t, l.line[:at]+l.line[at+1:])
			for _, other := range []string{"\t", "\n", ",", "\r", "\x00", "\u00a0", "_"} {
				none(t, l.line[:at]+other+l.line[at+1:])
			}
			// What is ahead of a blank is a line, too, but of another record.
			want, why := plainBack(l.line[:at])
			tells(t, l.line[:at], want, why)
		}
		none(t, l.line+"\n")
		none(t, l.line+"\r")
		none(t, l.line+"\t")
		none(t, l.line+" x")
		none(t, "\n"+l.line)
	}
}

// P33.3: any records there and back, and their lines with one byte another, one less, or one more.
func TestAnyLines(t *testing.T) {
	pick := picks(33)
	edges := "0123456789-+, cinehotrufdlwkas\n\x00\xff"
	ok, wrong := 0, 0
	for range 15000 {
		r := anyRecord(pick)
		line := plainLine(r)
		writes(t, r, line)
		at, one := pick(len(line)), edges[pick(len(edges)):][:1]
		for _, other := range []string{line[:at] + one + line[at+1:], line[:at] + one + line[at:], line[:at] + line[at+1:], line[:at], line[at:], line + one, one + line} {
			want, why := plainBack(other)
			tells(t, other, want, why)
			if why == api.OK {
				ok++
			} else {
				wrong++
			}
		}
	}
	if ok < 5000 || wrong < 5000 {
		t.Error("lines", ok, "and others", wrong)
	}
}

// All words of up to five letters of those that stand at an edge of something.
func TestAllShortWords(t *testing.T) {
	found := 0
	var tryAll func(word string)
	tryAll = func(word string) {
		line := "hot " + word
		want, why := plainBack(line)
		tells(t, line, want, why)
		if why == api.OK {
			found++
		}
		if len(word) == 5 {
			return
		}
		for _, one := range "cinex019-+ " {
			tryAll(word + string(one))
		}
	}
	tryAll("")
	// Each letter with 106 numbers, and each two letters with 1 or 9.
	if found != 4*106+6*4 {
		t.Error("found", found)
	}
}

// lists says what Lines answers, and that it changes no record.
func lists(t *testing.T, l []api.Rec, want []string) {
	t.Helper()
	kept := slices.Clone(l)
	if got := show.Lines(l...); !slices.Equal(got, want) {
		t.Fatalf("Lines(%+v) = %q, want %q", l, got, want)
	}
	if !slices.Equal(l, kept) {
		t.Fatalf("Lines changed %+v to %+v", kept, l)
	}
}

func TestLinesOfMany(t *testing.T) {
	lists(t, nil, nil)
	lists(t, []api.Rec{}, nil)
	if l := show.Lines(); len(l) != 0 {
		t.Errorf("Lines() = %q", l)
	}
	var l []api.Rec
	var want []string
	for _, one := range lines {
		lists(t, []api.Rec{one.r}, []string{one.line})
		lists(t, []api.Rec{one.r, one.r}, []string{one.line, one.line})
		l, want = append(l, one.r), append(want, one.line)
		lists(t, l, want)
	}
	// One of another kind has its place, too.
	lists(t, []api.Rec{{}}, []string{""})
	lists(t, []api.Rec{{Kind: 8}, {Kind: 1}, {Kind: -1, Cpu: 1}, {Kind: 7, Cpu: 3}, {}}, []string{"", "ret", "", "hot c3", ""})
	pick := picks(330)
	for many := range 40 {
		l, want := make([]api.Rec, many*25), make([]string, many*25)
		for at := range l {
			l[at] = anyRecord(pick)
			l[at].Kind = pick(9)
			want[at] = plainLine(l[at])
		}
		lists(t, l, want)
	}
}

// What a caller writes into an answer is seen by no later one.
func TestLinesAreTheCallers(t *testing.T) {
	l := []api.Rec{{Kind: 1}, {Kind: 2}}
	first, second := show.Lines(l...), show.Lines(l...)
	first[0], first[1] = "x", "y"
	_ = append(first[:1], "z")
	l[0].Kind = 3
	if !slices.Equal(second, []string{"ret", "run"}) {
		t.Errorf("%q", second)
	}
	lists(t, l, []string{"fire", "run"})
}

// masks says what Mask answers.
func masks(t *testing.T, m uint64, want string) {
	t.Helper()
	if word := show.Mask(m); word != want || word != plainMask(m) {
		t.Fatalf("Mask(%#x) = %q, want %q", m, word, want)
	}
}

func TestMasks(t *testing.T) {
	masks(t, 0, "")
	masks(t, 1, "0")
	masks(t, 2, "1")
	masks(t, 3, "0,1")
	masks(t, 5, "0,2")
	masks(t, 1<<9+1<<10, "9,10")
	masks(t, 1<<63, "63")
	masks(t, 1<<63+5, "0,2,63")
	masks(t, 1<<62+1<<31+1<<32, "31,32,62")
	all := "0,1,2,3,4,5,6,7,8,9,10,11,12,13,14,15,16,17,18,19,20,21,22,23,24,25,26,27,28,29,30,31,32,33,34,35,36,37,38,39,40,41,42,43,44,45,46,47,48,49,50,51,52,53,54,55,56,57,58,59,60,61,62,63"
	masks(t, math.MaxUint64, all)
	masks(t, math.MaxUint64-1, all[2:])
	masks(t, math.MaxUint64>>1, all[:len(all)-3])
	for bit := range 64 {
		masks(t, 1<<bit, fmt.Sprint(bit))
		for other := range bit {
			masks(t, 1<<bit|1<<other, fmt.Sprintf("%d,%d", other, bit))
		}
	}
	for m := range uint64(2048) {
		masks(t, m, plainMask(m))
		masks(t, ^m, plainMask(^m))
		masks(t, m<<53, plainMask(m<<53))
	}
	pick := picks(3300)
	for range 5000 {
		m := uint64(pick(1<<31))<<33 ^ uint64(pick(1<<31))<<16 ^ uint64(pick(1<<31))
		masks(t, m, plainMask(m))
	}
}

// What a kernel tells, as lines.
func TestLinesOfAKernel(t *testing.T) {
	k, why := kernel.New(2)
	if why != api.OK {
		t.Fatal(why)
	}
	for _, c := range []struct {
		e    api.Ev
		want []string
	}{
		{api.Ev{Kind: api.EvSpawn, Id: 3, Mask: 2}, []string{"ret i1"}},
		{api.Ev{Kind: api.EvSpawn, Id: 8, Mask: 2}, []string{"ret e2"}},
		{api.Ev{Kind: api.EvStep, Cpu: 1}, []string{"run c1 i1"}},
		{api.Ev{Kind: api.EvStep}, nil},
		{api.Ev{Kind: api.EvSleep, Id: 1, N: 4}, []string{"ret i1"}},
		{api.Ev{Kind: api.EvTick, N: 4}, []string{"ret"}},
		{api.Ev{Kind: api.EvStep, Cpu: 1}, []string{"fire c1 i1 n1"}},
		{api.Ev{Kind: api.EvQueue, Cpu: 1}, []string{"ret i1"}},
		{api.Ev{Kind: api.EvStep, Cpu: 1}, []string{"work c1 i1"}},
		{api.Ev{Kind: api.EvCall, Cpu: 1}, []string{"ret i1"}},
		{api.Ev{Kind: api.EvStep, Cpu: 1}, []string{"call c1 i1"}},
		{api.Ev{Kind: api.EvRequest, Id: 3, Mask: 2}, []string{"ret"}},
		{api.Ev{Kind: api.EvRaise, Id: 3}, []string{"ret"}},
		{api.Ev{Kind: api.EvStep, Cpu: 1}, []string{"handle c1 i3"}},
		{api.Ev{Kind: api.EvFail}, []string{"ret"}},
		{api.Ev{Kind: api.EvOffline, Cpu: 1}, []string{"ret"}},
		{api.Ev{Kind: api.EvStep}, nil},
		{api.Ev{Kind: api.EvStep}, []string{"hot c1 e11"}},
	} {
		if got := show.Lines(k.Do(c.e)...); !slices.Equal(got, c.want) {
			t.Errorf("%+v: %q, want %q", c.e, got, c.want)
		}
	}
}
