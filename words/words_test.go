package words_test

import (
	"fmt"
	"math"
	"strings"
	"testing"

	"davit/api"
	"davit/words"
)

const (
	least    = math.MinInt64
	greatest = math.MaxInt64
)

// allCpus is the word of a mask with all cores.
const allCpus = "0,1,2,3,4,5,6,7,8,9,10,11,12,13,14,15,16,17,18,19,20,21,22,23,24,25,26,27,28,29,30,31,32,33,34,35,36,37,38,39,40,41,42,43,44,45,46,47,48,49,50,51,52,53,54,55,56,57,58,59,60,61,62,63"

// lines are events, of each kind one at least, and their lines.
var lines = []struct {
	e    api.Ev
	line string
}{
	{api.Ev{Kind: api.EvStep, Cpu: 3}, "step 3"},
	{api.Ev{Kind: api.EvTick, N: 9}, "tick 9"},
	{api.Ev{Kind: api.EvSpawn, Id: 3, Mask: 5}, "spawn 3 0,2"},
	{api.Ev{Kind: api.EvExit, Id: 32}, "exit 32"},
	{api.Ev{Kind: api.EvYield, Id: 1}, "yield 1"},
	{api.Ev{Kind: api.EvSleep, Id: 1, N: -5}, "sleep 1 -5"},
	{api.Ev{Kind: api.EvWake, Id: 10}, "wake 10"},
	{api.Ev{Kind: api.EvAffin, Id: 2, Mask: 1}, "affin 2 0"},
	{api.Ev{Kind: api.EvWhere, Id: 7}, "where 7"},
	{api.Ev{Kind: api.EvArm, Cpu: 4, N: 7}, "arm 4 7"},
	{api.Ev{Kind: api.EvCancel, Id: 48}, "cancel 48"},
	{api.Ev{Kind: api.EvRequest, Id: 15, Mask: 1 << 63}, "request 15 63"},
	{api.Ev{Kind: api.EvFree, Id: 11}, "free 11"},
	{api.Ev{Kind: api.EvRoute, Id: 8, Mask: 1<<10 + 1<<9 + 1<<2}, "route 8 2,9,10"},
	{api.Ev{Kind: api.EvMask, Id: 12}, "mask 12"},
	{api.Ev{Kind: api.EvUnmask, Id: 13}, "unmask 13"},
	{api.Ev{Kind: api.EvRaise, Id: 14}, "raise 14"},
	{api.Ev{Kind: api.EvQueue, Cpu: -1}, "queue -1"},
	{api.Ev{Kind: api.EvFlush, Id: 31}, "flush 31"},
	{api.Ev{Kind: api.EvCall, Cpu: 63}, "call 63"},
	{api.Ev{Kind: api.EvAlloc, Cpu: 20}, "alloc 20"},
	{api.Ev{Kind: api.EvGive, Cpu: 1, Id: 96}, "give 1 96"},
	{api.Ev{Kind: api.EvOnline, Cpu: 5}, "online 5"},
	{api.Ev{Kind: api.EvOffline, Cpu: 6}, "offline 6"},
	{api.Ev{Kind: api.EvFail, N: 2}, "fail 2"},
	{api.Ev{Kind: api.EvHold, Cpu: 9}, "hold 9"},
	{api.Ev{Kind: api.EvDrop, Cpu: 8}, "drop 8"},
	{api.Ev{Kind: api.EvLimit, N: 100}, "limit 100"},
	{api.Ev{Kind: api.EvSpeed, Id: 100, N: 900}, "speed 100 900"},
	{api.Ev{Kind: api.EvBalance}, "balance"},
	// Fields that are 0 are told, and a mask without a core is an empty word.
	{api.Ev{Kind: api.EvStep}, "step 0"},
	{api.Ev{Kind: api.EvTick}, "tick 0"},
	{api.Ev{Kind: api.EvSpawn}, "spawn 0 "},
	{api.Ev{Kind: api.EvAffin, Id: 2}, "affin 2 "},
	{api.Ev{Kind: api.EvRequest, Id: -1}, "request -1 "},
	{api.Ev{Kind: api.EvRoute}, "route 0 "},
	{api.Ev{Kind: api.EvSleep}, "sleep 0 0"},
	{api.Ev{Kind: api.EvArm, N: 1}, "arm 0 1"},
	{api.Ev{Kind: api.EvGive, Id: 1}, "give 0 1"},
	{api.Ev{Kind: api.EvGive, Cpu: 1}, "give 1 0"},
	{api.Ev{Kind: api.EvSpeed, Id: 1}, "speed 1 0"},
	// Numbers at both ends of their range.
	{api.Ev{Kind: api.EvStep, Cpu: greatest}, "step 9223372036854775807"},
	{api.Ev{Kind: api.EvStep, Cpu: least}, "step -9223372036854775808"},
	{api.Ev{Kind: api.EvExit, Id: greatest}, "exit 9223372036854775807"},
	{api.Ev{Kind: api.EvExit, Id: least}, "exit -9223372036854775808"},
	{api.Ev{Kind: api.EvTick, N: greatest}, "tick 9223372036854775807"},
	{api.Ev{Kind: api.EvTick, N: least}, "tick -9223372036854775808"},
	{api.Ev{Kind: api.EvTick, N: api.MaxTick}, "tick 1152921504606846976"},
	{api.Ev{Kind: api.EvGive, Cpu: least, Id: greatest}, "give -9223372036854775808 9223372036854775807"},
	{api.Ev{Kind: api.EvAffin, Id: least, Mask: math.MaxUint64}, "affin -9223372036854775808 " + allCpus},
	{api.Ev{Kind: api.EvSpawn, Id: 3, Mask: 1<<63 + 5}, "spawn 3 0,2,63"},
	{api.Ev{Kind: api.EvSpawn, Id: 3, Mask: math.MaxUint64 - 1}, "spawn 3 " + allCpus[2:]},
}

// tells says what Parse answers of a line, and, if it is an event, that this one's line is the same.
func tells(t *testing.T, line string, want api.Ev, wantWhy api.Errno) {
	t.Helper()
	e, why := words.Parse(line)
	if e != want || why != wantWhy {
		t.Fatalf("Parse(%q) = %+v, %d, want %+v, %d", line, e, why, want, wantWhy)
	}
	if why != api.OK {
		return
	}
	if again, why := words.Line(e); again != line || why != api.OK {
		t.Fatalf("Line(Parse(%q)) = %q, %d", line, again, why)
	}
}

// none says that a line is no event's.
func none(t *testing.T, line string) {
	t.Helper()
	tells(t, line, api.Ev{}, api.ErrForm)
}

// writes says what Line answers, and that Parse of it is the event.
func writes(t *testing.T, e api.Ev, want string) {
	t.Helper()
	if line, why := words.Line(e); line != want || why != api.OK {
		t.Fatalf("Line(%+v) = %q, %d, want %q", e, line, why, want)
	}
	tells(t, want, e, api.OK)
}

// hasNone says that an event has no line, and that a text with it is refused likewise.
func hasNone(t *testing.T, e api.Ev) {
	t.Helper()
	if line, why := words.Line(e); line != "" || why != api.ErrArg {
		t.Fatalf("Line(%+v) = %q, %d", e, line, why)
	}
	if text, why := words.Text(api.Ev{Kind: api.EvBalance}, e, api.Ev{Kind: api.EvStep}); text != "" || why != api.ErrArg {
		t.Fatalf("Text with %+v = %q, %d", e, text, why)
	}
}

func TestLines(t *testing.T) {
	for _, l := range lines {
		writes(t, l.e, l.line)
	}
}

func TestNames(t *testing.T) {
	seen := map[string]bool{}
	for at, l := range lines[:30] {
		word, _, _ := strings.Cut(l.line, " ")
		if l.e.Kind != at+1 || seen[word] {
			t.Fatalf("the line %d is of the kind %d, %s", at, l.e.Kind, word)
		}
		seen[word] = true
		if name := words.Name(l.e.Kind); name != word {
			t.Errorf("Name(%d) = %q, want %q", l.e.Kind, name, word)
		}
		if kind := words.Kind(word); kind != l.e.Kind {
			t.Errorf("Kind(%q) = %d, want %d", word, kind, l.e.Kind)
		}
		for _, other := range []string{word + " ", " " + word, word + "s", word[1:], word[:len(word)-1], strings.ToUpper(word), strings.ToUpper(word[:1]) + word[1:], word + "\n", word + "\x00", word + " 0", word + word} {
			if kind := words.Kind(other); kind != 0 {
				t.Errorf("Kind(%q) = %d", other, kind)
			}
		}
	}
	for _, word := range []string{"", " ", "0", "1", "ret", "run", "hot", "CPU", "ask", "\xff\xfe", "c", "im", "ste\u0440", strings.Repeat("step", 1000)} {
		if kind := words.Kind(word); kind != 0 {
			t.Errorf("Kind(%q) = %d", word, kind)
		}
	}
	for kind := -300; kind <= 600; kind++ {
		if name := words.Name(kind); kind < 1 || kind > 30 {
			if name != "" {
				t.Errorf("Name(%d) = %q", kind, name)
			}
		} else if words.Kind(name) != kind {
			t.Errorf("Kind(Name(%d)) = %d", kind, words.Kind(name))
		}
	}
	for _, kind := range []int{math.MinInt, -1 << 32, 1 << 32, 1<<32 + 1, 1<<40 + 30, math.MaxInt} {
		if name := words.Name(kind); name != "" {
			t.Errorf("Name(%d) = %q", kind, name)
		}
	}
}

func TestLineOfAKindThatIsNone(t *testing.T) {
	for kind := -300; kind <= 600; kind++ {
		if kind < 1 || kind > 30 {
			hasNone(t, api.Ev{Kind: kind})
			hasNone(t, api.Ev{Kind: kind, Cpu: 1, Id: 2, Mask: 3, N: 4})
		}
	}
	for _, kind := range []int{math.MinInt, -1 << 32, 1 << 32, 1<<32 + 1, 1<<40 + 30, math.MaxInt} {
		hasNone(t, api.Ev{Kind: kind})
	}
}

// Of each kind, each field that its line names may be any number; each other one must be 0.
func TestEachFieldOfEachKind(t *testing.T) {
	numbers := []int64{0, 1, -1, 9, 10, -10, 63, 64, 99, 100, 255, 1 << 31, 1 << 32, -1 << 32, api.MaxTick, 1e18, greatest, greatest - 1, least, least + 1}
	for kind := 1; kind <= 30; kind++ {
		for field := range 4 {
			for _, n := range numbers {
				for _, other := range []int64{0, 7} {
					e := api.Ev{Kind: kind}
					_, names := shape(kind)
					for _, name := range names {
						switch name {
						case "CPU":
							e.Cpu = int(other)
						case "ID":
							e.Id = int(other)
						case "MASK":
							e.Mask = uint64(other)
						case "N":
							e.N = other
						}
					}
					switch field {
					case 0:
						e.Cpu = int(n)
					case 1:
						e.Id = int(n)
					case 2:
						e.Mask = uint64(n)
					case 3:
						e.N = n
					}
					if line, ok := plainLine(e); ok {
						writes(t, e, line)
					} else {
						hasNone(t, e)
					}
				}
			}
		}
	}
}

// Words that are no number, in each place where one must be.
func TestNoNumber(t *testing.T) {
	heads := []string{"step %s", "tick %s", "exit %s", "sleep %s 1", "sleep 1 %s", "arm %s 1", "arm 1 %s", "give %s 1", "give 1 %s", "spawn %s 1", "spawn %s ", "speed %s 2", "queue %s", "fail %s", "limit %s"}
	for _, word := range []string{
		"", "-", "+", "+1", "+0", "-0", "00", "01", "007", "-01", "-00", "--1", "+-1", "1-", "1+", "0x1", "0b1", "0o7", "1_0", "1_000", "_1", "1e3", "1.0", ".5", "1.", "1,2", ",", "a", "c", "none", "nil",
		"9223372036854775808", "-9223372036854775809", "18446744073709551615", "18446744073709551616", "18446744073709551617", "99999999999999999999", "-99999999999999999999", "09223372036854775807", "100000000000000000000000000000000000000",
		"\t1", "1\t", "1\n", "1\r", "\n1", "\x001", "1\x00", "\xff", "\u0661", "\uff11", "\u22121", "1\u00a0", "\u00a01", "Inf", "NaN",
	} {
		for _, head := range heads {
			none(t, fmt.Sprintf(head, word))
		}
	}
	for _, word := range []string{"0", "1", "-1", "10", "-10", "9223372036854775807", "-9223372036854775808"} {
		for _, head := range heads {
			line := fmt.Sprintf(head, word)
			e, why := plainParse(line)
			if why != api.OK {
				t.Fatalf("the plain one refuses %q", line)
			}
			tells(t, line, e, api.OK)
		}
	}
}

// Words that are no mask.
func TestNoMask(t *testing.T) {
	for _, word := range []string{
		",", ",0", "0,", ",,", "0,,1", "1,1", "0,0", "2,1", "1,0", "0,2,1", "0,2,2", "0,1,2,1", "63,0", "63,63", "64", "0,64", "63,64", "65", "100", "-1", "-1,0", "0,-1", "-0", "+1", "0,+1", "00", "01", "0,01", "007", "1.0", "0x1", "1_0", "a", "0,a", "none", "0;1", "0-3", "0.1", "0\t", "\t0", "0\n", "\n", "\x00", "\xff", "\u0661",
		"9223372036854775807", "9223372036854775808", "18446744073709551616", "18446744073709551617", "4294967296", "1,4294967297", "-9223372036854775808",
		allCpus + ",64", allCpus + ",", "," + allCpus, allCpus + ",63", "0," + allCpus, allCpus[:len(allCpus)-2] + "64",
	} {
		for _, head := range []string{"spawn 1 ", "affin 0 ", "request -1 ", "route 15 "} {
			none(t, head+word)
		}
	}
	// A mask without a core is an empty word, behind one blank: one more, or none, is too many, or too few.
	for _, word := range []string{"spawn", "affin", "request", "route"} {
		none(t, word+" 1")
		none(t, word+" 1  ")
		none(t, word+" 1 0 ")
		none(t, word+" 1 0, 1")
		none(t, word+"  ")
		none(t, word+" ")
	}
	for cpu := range 64 {
		one := fmt.Sprint(cpu)
		tells(t, "spawn 1 "+one, api.Ev{Kind: api.EvSpawn, Id: 1, Mask: 1 << cpu}, api.OK)
		for other := range 64 {
			line := fmt.Sprintf("route 2 %d,%d", cpu, other)
			if cpu < other {
				tells(t, line, api.Ev{Kind: api.EvRoute, Id: 2, Mask: 1<<cpu | 1<<other}, api.OK)
			} else {
				none(t, line)
			}
		}
	}
}

// Each line with a blank too many, in each place, with one too few, with a word too many, or one too few.
func TestBlanks(t *testing.T) {
	for _, l := range lines {
		for at := 0; at <= len(l.line); at++ {
			none(t, l.line[:at]+" "+l.line[at:])
		}
		for at := range l.line {
			if l.line[at] != ' ' {
				continue
			}
			none(t, l.line[:at]+l.line[at+1:])
			for _, other := range []string{"\t", "\n", ",", "\r", "\x00", "\u00a0", "_"} {
				none(t, l.line[:at]+other+l.line[at+1:])
			}
			e, why := plainParse(l.line[:at])
			if why == api.OK {
				t.Fatalf("%q is the line of %+v", l.line[:at], e)
			}
			none(t, l.line[:at])
		}
		none(t, l.line+" 1")
		none(t, l.line+" x")
		none(t, l.line+"\n")
		none(t, l.line+"\r")
		none(t, "\n"+l.line)
		none(t, strings.ToUpper(l.line))
		word, rest, _ := strings.Cut(l.line, " ")
		none(t, strings.ToUpper(word)+" "+rest)
		none(t, " "+rest)
	}
	for _, line := range []string{"", " ", "  ", "\n", "\x00", "0", "1", "# step", "ask now", "-", "balance 0", "balance ", "zz", "step", "step ", "step 1 ", "stepp 1", "ste 1", "1 step", "step step"} {
		none(t, line)
	}
}

func TestLongLines(t *testing.T) {
	// A number of many digits is none, and a line of it is too long from 301 bytes on.
	for digits := 20; digits <= 295; digits++ {
		none(t, "step "+strings.Repeat("1", digits))
	}
	tells(t, "step "+strings.Repeat("1", 296), api.Ev{}, api.ErrSize)
	for _, one := range []string{"0", " ", "1", "step ", "\x00", "\xff", ",", "spawn 1 " + allCpus} {
		long := strings.Repeat(one, 1000)
		none(t, long[:299])
		none(t, long[:300])
		for _, size := range []int{301, 302, 1000} {
			tells(t, long[:size], api.Ev{}, api.ErrSize)
		}
	}
	// Were it read by its words, it would be one's line.
	tells(t, "step "+strings.Repeat("0", 295)+"1", api.Ev{}, api.ErrSize)
	none(t, "step "+strings.Repeat("0", 294)+"1")
	tells(t, strings.Repeat("step 1\n", 43), api.Ev{}, api.ErrSize)
	none(t, strings.Repeat("step 1\n", 42))
	// The longest line that there is.
	longest := api.Ev{Kind: api.EvRequest, Id: least, Mask: math.MaxUint64}
	writes(t, longest, "request -9223372036854775808 "+allCpus)
}

// P32.3: any events there and back, and their lines with one byte another, one less, or one more.
func TestAnyLines(t *testing.T) {
	pick := picks(32)
	edges := "0123456789-+, \nabcdefgimnoprstuwy\x00\xff"
	for range 15000 {
		e := anyEvent(pick)
		line, ok := plainLine(e)
		if !ok {
			t.Fatalf("the plain one refuses %+v", e)
		}
		writes(t, e, line)
		at, one := pick(len(line)), edges[pick(len(edges)):][:1]
		for _, other := range []string{line[:at] + one + line[at+1:], line[:at] + one + line[at:], line[:at] + line[at+1:], line[:at], line[at:], line + one, one + line} {
			want, why := plainParse(other)
			tells(t, other, want, why)
		}
	}
}

// All words of up to five letters of those that stand at an edge of something, as a number and as a mask.
func TestAllShortWords(t *testing.T) {
	found := 0
	var tryAll func(word string)
	tryAll = func(word string) {
		for _, head := range []string{"tick ", "affin 1 "} {
			want, why := plainParse(head + word)
			tells(t, head+word, want, why)
			if why == api.OK {
				found++
			}
		}
		if len(word) == 5 {
			return
		}
		for _, one := range "01369-+, " {
			tryAll(word + string(one))
		}
	}
	tryAll("")
	if found < 1000 {
		t.Error("found", found)
	}
}
