package words_test

import (
	"slices"
	"strings"
	"testing"

	"davit/api"
	"davit/words"
)

// reads says that Read answers these events, and no line's number.
func reads(t *testing.T, text string, want []api.Ev) {
	t.Helper()
	if l, at, why := words.Read(text); !slices.Equal(l, want) || at != 0 || why != api.OK {
		t.Fatalf("Read(%.60q) = %d events, %d, %d, want %d", text, len(l), at, why, len(want))
	}
}

// wrong says which line Read tells, and which error, and no events beside it.
func wrong(t *testing.T, text string, want int, wantWhy api.Errno) {
	t.Helper()
	if l, at, why := words.Read(text); len(l) != 0 || at != want || why != wantWhy {
		t.Fatalf("Read(%.60q) of %d bytes = %d events, %d, %d, want %d, %d", text, len(text), len(l), at, why, want, wantWhy)
	}
}

// texts says what Text answers, and that Read of it is the events.
func texts(t *testing.T, l []api.Ev, want string) {
	t.Helper()
	kept := slices.Clone(l)
	if text, why := words.Text(l...); text != want || why != api.OK {
		t.Fatalf("Text(%+v) = %q, %d, want %q", l, text, why, want)
	}
	if !slices.Equal(l, kept) {
		t.Fatalf("Text changed %+v to %+v", kept, l)
	}
	if len(want) <= 16000 {
		reads(t, want, l)
	} else {
		wrong(t, want, 0, api.ErrSize)
	}
}

// refusesText says which error Text answers, and nothing beside it.
func refusesText(t *testing.T, l []api.Ev, want api.Errno) {
	t.Helper()
	if text, why := words.Text(l...); text != "" || why != want {
		t.Fatalf("Text of %d events = %.60q, %d, want %d", len(l), text, why, want)
	}
}

func TestTexts(t *testing.T) {
	texts(t, nil, "")
	texts(t, []api.Ev{}, "")
	reads(t, "", nil)
	var l []api.Ev
	text := ""
	for _, one := range lines {
		l, text = append(l, one.e), text+one.line+"\n"
		texts(t, l, text)
		texts(t, []api.Ev{one.e}, one.line+"\n")
		texts(t, []api.Ev{one.e, one.e}, one.line+"\n"+one.line+"\n")
	}
}

// P32.4, of any events: as many as there may be, and texts that are too long to be read.
func TestAnyTexts(t *testing.T) {
	pick := picks(320)
	long := 0
	for n := range 60 {
		l := make([]api.Ev, n*10)
		var want strings.Builder
		for at := range l {
			l[at] = anyEvent(pick)
			line, _ := plainLine(l[at])
			want.WriteString(line + "\n")
		}
		if want.Len() > 16000 {
			long++
		}
		texts(t, l, want.String())
	}
	if long < 5 || long > 50 {
		t.Error("too long are", long)
	}
}

func TestMostEvents(t *testing.T) {
	l := slices.Repeat([]api.Ev{{Kind: api.EvBalance}}, 601)
	texts(t, l[:599], strings.Repeat("balance\n", 599))
	texts(t, l[:600], strings.Repeat("balance\n", 600))
	refusesText(t, l, api.ErrSize)
	refusesText(t, slices.Repeat(l, 10), api.ErrSize)
	for _, many := range []int{601, 602, 700, 2000} {
		wrong(t, strings.Repeat("balance\n", many), 600, api.ErrSize)
	}
	// Too many go ahead of one that has no line.
	refusesText(t, append([]api.Ev{{}}, l[:599]...), api.ErrArg)
	refusesText(t, append([]api.Ev{{}}, l[:600]...), api.ErrSize)
	refusesText(t, make([]api.Ev, 601), api.ErrSize)
	refusesText(t, make([]api.Ev, 600), api.ErrArg)
	refusesText(t, append(slices.Clone(l[:599]), api.Ev{Kind: api.EvBalance, N: 1}), api.ErrArg)
}

// A line that is no event's goes ahead of too many events, as it is named first.
func TestWrongLinesAmongTooMany(t *testing.T) {
	full := strings.Repeat("step 1\n", 600)
	wrong(t, full+"balance\n", 600, api.ErrSize)
	wrong(t, full+"balance", 600, api.ErrForm)
	wrong(t, full+"zz\n", 600, api.ErrForm)
	wrong(t, full+"\n", 600, api.ErrForm)
	wrong(t, full+" ", 600, api.ErrForm)
	wrong(t, full+"balance\nzz\n", 601, api.ErrForm)
	wrong(t, full+"balance\nbalance", 601, api.ErrForm)
	wrong(t, full+full+"zz\nzz\n", 1200, api.ErrForm)
	wrong(t, "zz\n"+full+full, 0, api.ErrForm)
	wrong(t, full[7:]+"zz\n"+full, 599, api.ErrForm)
}

// long is a text of events that has so many bytes.
func long(t *testing.T, size int) string {
	t.Helper()
	// 600 lines of 26 bytes, so many of which get one more.
	short, wide := "affin 1 10,11,12,13,14,15\n", "affin 10 10,11,12,13,14,15\n"
	more := size - 600*len(short)
	text := strings.Repeat(wide, more) + strings.Repeat(short, 600-more)
	if len(text) != size {
		t.Fatalf("it has %d bytes, not %d", len(text), size)
	}
	return text
}

func TestLongTexts(t *testing.T) {
	six := func(id int) api.Ev { return api.Ev{Kind: api.EvAffin, Id: id, Mask: 0xfc00} }
	reads(t, long(t, 15999), append(slices.Repeat([]api.Ev{six(10)}, 399), slices.Repeat([]api.Ev{six(1)}, 201)...))
	reads(t, long(t, 16000), append(slices.Repeat([]api.Ev{six(10)}, 400), slices.Repeat([]api.Ev{six(1)}, 200)...))
	wrong(t, long(t, 16001), 0, api.ErrSize)
	texts(t, append(slices.Repeat([]api.Ev{six(10)}, 401), slices.Repeat([]api.Ev{six(1)}, 199)...), long(t, 16001))
	// Too many bytes go ahead of all that is wrong in them.
	wrong(t, long(t, 16000)+"\n", 0, api.ErrSize)
	wrong(t, long(t, 16000)+"z", 0, api.ErrSize)
	wrong(t, long(t, 16000)[:15999], 599, api.ErrForm)
	wrong(t, long(t, 15999)+"z", 600, api.ErrForm)
	wrong(t, long(t, 15999)+"\n", 600, api.ErrForm)
	for _, one := range []string{"balance\n", "zz\n", "\n", "z", "\x00", "\xff"} {
		many := strings.Repeat(one, 20000)
		wrong(t, many[:16001], 0, api.ErrSize)
		wrong(t, many, 0, api.ErrSize)
	}
	wrong(t, strings.Repeat("balance\n", 2000), 600, api.ErrSize)
	wrong(t, strings.Repeat("balance\n", 2000)[:15999], 1999, api.ErrForm)
	wrong(t, strings.Repeat("\n", 16000), 0, api.ErrForm)
	wrong(t, strings.Repeat("z", 16000), 0, api.ErrForm)
}

// The number of the first line that is wrong, whatever is wrong in it, and whatever follows.
func TestNumbersOfLines(t *testing.T) {
	bad := []string{"", " ", "zz", "step", "step 01", "step 1 ", " step 1", "step  1", "step 1\r", "balance ", "spawn 1 1,0", "tick 9223372036854775808", "\x00", "\xff", "step 1\x00", strings.Repeat("z", 300), strings.Repeat("z", 301), strings.Repeat("z", 5000), "step " + strings.Repeat("0", 296)}
	for _, ahead := range []int{0, 1, 2, 3, 77, 599} {
		good := strings.Repeat("step 1\n", ahead)
		for _, line := range bad {
			for _, behind := range []string{"", "\n", "balance\n", "zz\n", "balance"} {
				wrong(t, good+line+"\n"+behind, ahead, api.ErrForm)
			}
			if line != "" {
				wrong(t, good+line, ahead, api.ErrForm)
			}
		}
		// Without a byte 10 at the end an event's line is none.
		for _, l := range lines {
			wrong(t, good+l.line, ahead, api.ErrForm)
		}
	}
	reads(t, "step 1\nbalance\nspawn 0 \n", []api.Ev{{Kind: api.EvStep, Cpu: 1}, {Kind: api.EvBalance}, {Kind: api.EvSpawn}})
	wrong(t, "step 1\r\nbalance\r\n", 0, api.ErrForm)
	wrong(t, "step 1\n\nbalance\n", 1, api.ErrForm)
	wrong(t, "\nstep 1\n", 0, api.ErrForm)
	wrong(t, "step 1\nbalance\n\n", 2, api.ErrForm)
}

// Which of several events that have no line is told does not show; where it stands does not count.
func TestTextOfEventsWithoutALine(t *testing.T) {
	for _, e := range []api.Ev{{}, {Kind: 31}, {Kind: -1}, {Kind: api.EvStep, Id: 1}, {Kind: api.EvStep, Mask: 1}, {Kind: api.EvStep, N: 1}, {Kind: api.EvTick, Cpu: 1}, {Kind: api.EvBalance, Cpu: -1}} {
		for _, at := range []int{0, 1, 2, 599} {
			l := slices.Repeat([]api.Ev{{Kind: api.EvBalance}}, 600)
			l[at] = e
			refusesText(t, l, api.ErrArg)
			refusesText(t, l[:at+1], api.ErrArg)
		}
	}
}

// Texts of which one byte is another, is not there, or is too many: what is read, told, is the text.
func TestTextsThereAndBack(t *testing.T) {
	pick := picks(324)
	edges := "0123456789-+, \nabcdefgimnoprstuwy\x00\xff"
	found := 0
	same := func(text string) {
		var want []api.Ev
		for at, line := range strings.SplitAfter(text, "\n") {
			if line == "" {
				continue
			}
			e, why := plainParse(strings.TrimSuffix(line, "\n"))
			if why != api.OK || line[len(line)-1] != '\n' {
				wrong(t, text, at, api.ErrForm)
				return
			}
			want = append(want, e)
		}
		found++
		texts(t, want, text)
	}
	for range 2000 {
		var l []api.Ev
		for range 1 + pick(5) {
			l = append(l, anyEvent(pick))
		}
		text, _ := words.Text(l...)
		same(text)
		at, one := pick(len(text)), edges[pick(len(edges)):][:1]
		same(text[:at] + one + text[at+1:])
		same(text[:at] + one + text[at:])
		same(text[:at] + text[at+1:])
		same(text[:at])
		same(text[at:])
	}
	if found < 2500 {
		t.Error("found", found)
	}
}

// What is written into an answer, or appended to it, is in no later one.
func TestAnswersAreTheCallers(t *testing.T) {
	text := "step 1\nbalance\n"
	want := []api.Ev{{Kind: api.EvStep, Cpu: 1}, {Kind: api.EvBalance}}
	l, _, _ := words.Read(text)
	clear(l)
	_ = append(l, api.Ev{Kind: 9})
	reads(t, text, want)
	told, _ := words.Text(want...)
	clear(want)
	if told != text {
		t.Errorf("Text kept the events that it was handed: %q", told)
	}
}
