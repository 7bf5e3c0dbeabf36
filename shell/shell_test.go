package shell_test

import (
	"fmt"
	"math"
	"reflect"
	"slices"
	"strings"
	"testing"

	"davit/api"
	"davit/kernel"
	"davit/shell"
)

// made is a shell of so many cores.
func made(t *testing.T, cpus int) *shell.Shell {
	t.Helper()
	s, why := shell.New(cpus)
	if why != api.OK || s == nil || s.Kernel() == nil {
		t.Fatalf("New(%d) = %v, %d", cpus, s, why)
	}
	return s
}

// twin is a kernel that is held against a shell's: none of what is asked comes to it.
func twin(t *testing.T, cpus int) *kernel.Kernel {
	t.Helper()
	k, why := kernel.New(cpus)
	if why != api.OK {
		t.Fatalf("kernel.New(%d) = %d", cpus, why)
	}
	return k
}

// says says what a line is answered by.
func says(t *testing.T, s *shell.Shell, line string, want ...string) {
	t.Helper()
	if got := s.Do(line); !slices.Equal(got, want) {
		t.Fatalf("Do(%.400q) = %q, want %q", line, got, want)
	}
}

// session is lines, and what each is answered by, one after the other.
func session(t *testing.T, s *shell.Shell, l [][]string) {
	t.Helper()
	for at, c := range l {
		if got := s.Do(c[0]); !slices.Equal(got, c[1:]) {
			t.Fatalf("%d: Do(%q) = %q, want %q", at, c[0], got, c[1:])
		}
	}
}

func TestNil(t *testing.T) {
	var s *shell.Shell
	for _, line := range append([]string{"", "#", "zz", "step 0", "ask", "ask ", "ask zz", "ask queue 0", strings.Repeat("z", 301)}, allAsks()...) {
		if l := s.Do(line); len(l) != 0 {
			t.Errorf("Do(%q) of nil = %q", line, l)
		}
	}
	for _, text := range []string{"", "\n", "step 0\n", "ask now", strings.Repeat("\n", 16000), strings.Repeat("\n", 16001)} {
		if answers, why := s.Run(text); answers != "" || why != api.ErrNil {
			t.Errorf("Run of nil = %q, %d", answers, why)
		}
	}
	if s.Kernel() != nil {
		t.Error("Kernel of nil")
	}
}

func TestNew(t *testing.T) {
	for _, cpus := range []int{math.MinInt, -65, -1, 0, 65, 66, 128, 1 << 32, 1<<32 + 1, math.MaxInt} {
		if s, why := shell.New(cpus); s != nil || why != api.ErrArg {
			t.Errorf("New(%d) = %v, %d", cpus, s, why)
		}
	}
	for cpus := 1; cpus <= 64; cpus++ {
		s := made(t, cpus)
		if s.Kernel().Cpus() != cpus || s.Kernel() != s.Kernel() {
			t.Errorf("New(%d) has %d", cpus, s.Kernel().Cpus())
		}
		if other := made(t, cpus); other.Kernel() == s.Kernel() {
			t.Error("one kernel of two shells")
		}
		if !reflect.DeepEqual(s.Kernel(), twin(t, cpus)) {
			t.Errorf("New(%d) has not a new kernel", cpus)
		}
		for _, word := range []string{"queue", "timers", "works", "calls", "kept"} {
			says(t, s, fmt.Sprintf("ask %s %d", word, cpus-1), "none")
			says(t, s, fmt.Sprintf("ask %s %d", word, cpus), "error 13")
		}
	}
}

// allAsks are all lines that ask, of two cores.
func allAsks() []string {
	var l []string
	for _, what := range askable {
		l = append(l, "ask "+what)
		if head, _, ofCore := strings.Cut(what, " "); ofCore {
			l = append(l, "ask "+head+" 1")
		}
	}
	return l
}

func TestAsksOfANewKernel(t *testing.T) {
	s := made(t, 1)
	session(t, s, [][]string{{"ask online", "0"}, {"ask active", "0"}, {"ask now", "0"}, {"ask threads", "none"}, {"ask busy", "none"}, {"ask queue 0", "none"}, {"ask timers 0", "none"}, {"ask works 0", "none"}, {"ask calls 0", "none"}, {"ask kept 0", "none"}, {"ask free", "none"}, {"ask out", "none"}, {"ask done", "0"}})
	all := "0"
	for cpu := 1; cpu < 64; cpu++ {
		all += fmt.Sprint(",", cpu)
	}
	session(t, made(t, 64), [][]string{{"ask online", all}, {"ask active", all}, {"ask queue 63", "none"}, {"ask queue 64", "error 13"}})
}

// The document's example, and each line that asks, ahead of events that change its answer, and behind them.
func TestSession(t *testing.T) {
	session(t, made(t, 3), [][]string{
		{"step 0", "quiet"}, {"ask online", "0,1,2"},
		{"ask threads", "none"}, {"ask queue 1", "none"}, {"spawn 3 1", "ret i1"}, {"ask threads", "1"}, {"ask queue 1", "1"}, {"spawn 5 1,2", "ret i2"}, {"spawn 3 1", "ret i3"}, {"ask threads", "1 2 3"}, {"ask queue 1", "1 3"}, {"ask queue 2", "2"}, {"ask queue 0", "none"},
		{"step 1", "run c1 i1"}, {"ask queue 1", "3 1"}, {"yield 3", "ret"}, {"ask queue 1", "1 3"}, {"affin 2 1", "ret"}, {"ask queue 1", "2 1 3"}, {"ask queue 2", "none"}, {"exit 1", "ret"}, {"ask threads", "2 3"}, {"ask queue 1", "2 3"},
		{"ask done", "1"}, {"ask now", "0"}, {"tick 7", "ret"}, {"ask now", "7"}, {"tick -1", "ret e2"}, {"ask now", "7"},
		{"ask timers 2", "none"}, {"arm 2 9", "ret i1"}, {"arm 2 4", "ret i2"}, {"arm 2 9", "ret i3"}, {"ask timers 2", "2 1 3"}, {"ask timers 1", "none"}, {"sleep 2 5", "ret i4"}, {"ask timers 1", "4"}, {"ask queue 1", "3"}, {"ask threads", "2 3"}, {"cancel 1", "ret"}, {"cancel 4", "ret e6"}, {"ask timers 2", "2 3"}, {"tick 5", "ret"}, {"step 1", "fire c1 i4 n2"}, {"ask timers 1", "none"}, {"ask queue 1", "2 3"}, {"step 2", "fire c2 i2"}, {"ask timers 2", "3"}, {"ask done", "3"},
		{"ask works 1", "none"}, {"ask free", "none"}, {"queue 1", "ret i1"}, {"queue -1", "ret i2"}, {"queue 1", "ret i3"}, {"queue -1", "ret i4"}, {"ask works 1", "1 3"}, {"ask free", "2 4"}, {"ask works 0", "none"}, {"flush 2", "ret i1"}, {"step 1", "work c1 i1"}, {"ask works 1", "3"}, {"step 2", "work c2 i2"}, {"ask free", "4"},
		{"ask calls 0", "none"}, {"call 0", "ret i1"}, {"call 0", "ret i2"}, {"ask calls 0", "1 2"}, {"ask calls 1", "none"}, {"step 0", "quiet"}, {"step 0", "call i1"}, {"ask calls 0", "2"},
		{"ask out", "none"}, {"ask kept 0", "none"}, {"alloc 0", "ret i2"}, {"ask out", "2"}, {"ask kept 0", "1"}, {"alloc 1", "ret i4"}, {"ask out", "2 4"}, {"ask kept 1", "3"}, {"give 0 4", "ret"}, {"ask out", "2"}, {"ask kept 0", "1 4"}, {"give 0 4", "ret e4"},
		{"request 3 1", "ret"}, {"raise 3", "ret"}, {"step 1", "handle c1 i3"},
		{"ask busy", "none"}, {"ask active", "0,1,2"}, {"offline 1", "ret"}, {"ask busy", "1"}, {"online 2", "ret e7"}, {"ask active", "0,1,2"}, {"step 0", "quiet"}, {"ask active", "0,1,2"}, {"step 0", "quiet"}, {"ask active", "0,2"}, {"ask online", "0,1,2"}, {"call 1", "ret e9"}, {"step 0", "quiet"}, {"ask queue 1", "3"}, {"ask queue 0", "none"}, {"ask queue 2", "2"},
	})
}

// A request of each kind to its end, and one that fails.
func TestRequests(t *testing.T) {
	s := made(t, 2)
	until := func(want string) {
		t.Helper()
		for range 40 {
			for _, line := range []string{"step 1", "step 0"} {
				if l := s.Do(line); slices.Equal(l, []string{want}) {
					return
				} else if !slices.Equal(l, []string{"quiet"}) {
					t.Fatalf("%s: %q", line, l)
				}
			}
		}
		t.Fatalf("no %q", want)
	}
	session(t, s, [][]string{{"alloc 1", "ret i2"}, {"ask kept 1", "1"}, {"ask busy", "none"}, {"offline 0", "ret"}, {"ask busy", "0"}})
	until("hot")
	session(t, s, [][]string{{"ask busy", "none"}, {"ask online", "1"}, {"ask active", "1"}, {"offline 1", "ret e10"}, {"offline 0", "ret e9"}, {"step 0", "quiet"}, {"online 0", "ret"}, {"ask busy", "0"}, {"ask online", "1"}})
	until("hot")
	session(t, s, [][]string{{"ask busy", "none"}, {"ask online", "0,1"}, {"ask active", "0,1"}, {"fail 7", "ret"}, {"offline 1", "ret"}, {"ask busy", "1"}})
	until("hot c1 e11")
	session(t, s, [][]string{{"ask busy", "none"}, {"ask online", "0,1"}, {"ask active", "0,1"}, {"ask kept 1", "1"}, {"hold 0", "ret"}, {"offline 1", "ret"}, {"hold 0", "ret e7"}, {"step 0", "quiet"}, {"ask active", "0,1"}, {"drop 0", "ret"}})
	until("hot c1")
	session(t, s, [][]string{{"ask online", "0"}, {"ask kept 1", "none"}, {"ask out", "2"}, {"ask queue 1", "none"}})
}

// A line of each kind of event, in a new kernel.
func TestEachKind(t *testing.T) {
	for _, c := range [][]string{
		{"step 0", "quiet"}, {"tick 3", "ret"}, {"spawn 3 0", "ret i1"}, {"exit 1", "ret e4"}, {"yield 1", "ret e4"}, {"sleep 1 2", "ret e4"}, {"wake 1", "ret e4"}, {"affin 1 0", "ret e4"}, {"where 1", "ret e4"}, {"arm 1 5", "ret i1"}, {"cancel 1", "ret e4"}, {"request 1 0,1", "ret"}, {"free 1", "ret e4"}, {"route 1 0", "ret e4"}, {"mask 1", "ret e4"}, {"unmask 1", "ret e4"}, {"raise 1", "ret e4"}, {"queue 0", "ret i1"}, {"flush 1", "ret"}, {"call 1", "ret i1"}, {"alloc 1", "ret i2"}, {"give 0 1", "ret e4"}, {"online 0", "ret e8"}, {"offline 0", "ret"}, {"fail 9", "ret"}, {"hold 0", "ret"}, {"drop 0", "ret e12"}, {"limit 5", "ret"}, {"speed 100 200", "ret"}, {"balance", "ret"},
		{"step 2", "ret e3"}, {"step -1", "ret e3"}, {"tick -1", "ret e2"}, {"spawn 3 2", "ret e2"}, {"spawn 3 ", "ret e2"}, {"spawn 8 0", "ret e2"}, {"flush 0", "ret e2"}, {"fail 10", "ret e3"}, {"limit -1", "ret e2"}, {"request 16 0", "ret e3"}, {"offline 2", "ret e3"}, {"queue -2", "ret e3"},
	} {
		s := made(t, 2)
		k := twin(t, 2)
		if plain := plainDo(k, c[0]); !slices.Equal(plain, c[1:]) {
			t.Errorf("the plain one answers %q by %q", c[0], plain)
		}
		session(t, s, [][]string{c})
		if !reflect.DeepEqual(s.Kernel(), k) {
			t.Errorf("%q does another thing than its event", c[0])
		}
	}
}

// unheard says that a line is answered so, and changes nothing.
func unheard(t *testing.T, line string, want ...string) {
	t.Helper()
	s := made(t, 2)
	says(t, s, line, want...)
	if !reflect.DeepEqual(s.Kernel(), twin(t, 2)) {
		t.Fatalf("%.400q changes something", line)
	}
}

func TestLinesWithoutAnswer(t *testing.T) {
	for _, line := range []string{"", "#", "##", "# a remark", "#step 0", "# step 0", "#ask now", "#\n", "# \nstep 0", "#\x00\xff", "#" + strings.Repeat("z", 299), "#" + strings.Repeat("z", 300), strings.Repeat("#", 20000)} {
		unheard(t, line)
	}
}

func TestLinesThatAreNone(t *testing.T) {
	for _, line := range []string{
		"zz", " ", "  ", "\n", "\t", "\x00", "\xff\xfe", "0", " #", " # a remark", "\n#", "step", "step ", "step 01", "step +1", "step 1 ", " step 1", "step  1", "step 1\n", "step 1\r", "\nstep 1", "step 1 1", "STEP 1", "step x", "step 1\nstep 1", "tick 9223372036854775808", "spawn 3 1,0", "spawn 3 64", "balance ", "balance 0",
		"quiet", "ret", "ret i1", "error 13", "none", "online", "now", "queue", "free", "out", "done", "threads",
		// The word ask by itself, without a blank, with another thing than a blank, or behind one.
		"ask", "asknow", "ask\tnow", "ask\nnow", "ask,now", "ask\x00now", "ASK now", "Ask now", "as now", "aask now", " ask now", "\nask now", "asks now", "ask\u00a0now",
	} {
		unheard(t, line, "error 13")
	}
}

// What can not be asked: words too many, too few, others, or in another form.
func TestAskedInVain(t *testing.T) {
	unheard(t, "ask ", "error 13")
	for _, what := range askable {
		for _, other := range []string{" " + what, what + " ", what + " 0", what + " x", what + "\n", what + "\r", what + "\t", what + "\x00", "\n" + what, what + "s", what + what, what + " " + what, what + ",", what + "#", "# " + what, "ask " + what, strings.ToUpper(what), strings.ToUpper(what[:1]) + what[1:], what[1:], what[:len(what)-1], strings.Replace(what, " ", "  ", 1) + " "} {
			unheard(t, "ask "+other, "error 13")
		}
	}
	for _, what := range []string{" ", "  ", "zz", "ask", "step 0", "tick 5", "balance", "spawn 3 0", "cpus", "cores", "0", "none", "quiet", "#", "queues 0", "timer 0", "work 0", "call 0", "keep 0", "online 0", "now 0", "done 0", "free -1", "works free", "irqs", "gate", "\xff", "online,active", "online active"} {
		unheard(t, "ask "+what, "error 13")
	}
	for _, word := range []string{"queue", "timers", "works", "calls", "kept"} {
		for _, core := range []string{
			"", " ", "2", "3", "63", "64", "-1", "-2", "00", "01", "001", "+0", "+1", "-0", "0 ", " 0", "0 0", "0 1", "0\n", "0\r", "\t0", "0x0", "0b1", "1.0", "1e0", "1_0", "0,1", "none", "x", "c0", "\x00", "\xff", "\u0660", "\uff10", "4294967296", "4294967297", "9223372036854775807", "9223372036854775808", "18446744073709551616", "18446744073709551617", "-9223372036854775808", "-18446744073709551616", "100000000000000000000000000000000000000", strings.Repeat("0", 300), strings.Repeat("1", 300),
		} {
			unheard(t, "ask "+word+" "+core, "error 13")
		}
		unheard(t, "ask "+word, "error 13")
		unheard(t, "ask "+word+"  0", "error 13")
		unheard(t, "ask "+word+"0", "error 13")
		unheard(t, "ask "+word+"\t0", "error 13")
		unheard(t, "ask "+word+",0", "error 13")
		unheard(t, "ask "+word+" 0", "none")
		unheard(t, "ask "+word+" 1", "none")
	}
}

// The length of a line counts only where it is an event's, or none.
func TestLongLines(t *testing.T) {
	for _, one := range []string{"z", "0", " ", "step ", "step 0\n", "\x00", "\xff", "ask", "ask\n", "\n", "9,"} {
		long := strings.Repeat(one, 20000)
		unheard(t, long[:299], "error 13")
		unheard(t, long[:300], "error 13")
		for _, size := range []int{301, 302, 16001, 20000} {
			unheard(t, long[:size], "error 15")
		}
	}
	for _, size := range []int{299, 300, 301, 302, 16000, 16001} {
		unheard(t, "#"+strings.Repeat("z", size-1))
		unheard(t, "ask "+strings.Repeat("z", size-4), "error 13")
		unheard(t, "ask "+strings.Repeat(" ", size-4), "error 13")
		unheard(t, "ask queue "+strings.Repeat("0", size-10), "error 13")
		unheard(t, "ask now"+strings.Repeat("\n", size-7), "error 13")
	}
	all := "0"
	for cpu := 1; cpu < 64; cpu++ {
		all += fmt.Sprint(",", cpu)
	}
	says(t, made(t, 64), "spawn 3 "+all, "ret i1")
	unheard(t, "spawn 3 "+all, "ret e2")
}

// runs says what a text is answered by: it is what the plain one answers, and what its lines are, one by one.
func runs(t *testing.T, cpus int, text, want string) {
	t.Helper()
	s, k := made(t, cpus), twin(t, cpus)
	if plain := plainRun(k, text); plain != want {
		t.Fatalf("the plain one answers %.400q by %.400q, want %.400q", text, plain, want)
	}
	if got, why := s.Run(text); got != want || why != api.OK {
		t.Fatalf("Run(%.400q) = %.400q, %d, want %.400q", text, got, why, want)
	}
	if !reflect.DeepEqual(s.Kernel(), k) {
		t.Fatalf("%.400q leaves another kernel", text)
	}
	lines, got := made(t, cpus), ""
	for _, line := range strings.Split(text, "\n") {
		for _, answer := range lines.Do(line) {
			got += answer + "\n"
		}
	}
	if got != want || !reflect.DeepEqual(lines.Kernel(), k) {
		t.Fatalf("the lines of %.400q are answered by %.400q, want %.400q", text, got, want)
	}
}

func TestTexts(t *testing.T) {
	for _, c := range [][2]string{
		{"", ""}, {"\n", ""}, {"\n\n\n", ""}, {"#", ""}, {"# a\n#b\n", ""},
		{"step 0", "quiet\n"}, {"step 0\n", "quiet\n"}, {"\nstep 0", "quiet\n"}, {"step 0\n\n", "quiet\n"}, {"\n\nstep 0\n\n\nstep 0\n\n", "quiet\nquiet\n"},
		{"zz", "error 13\n"}, {"zz\n", "error 13\n"}, {" ", "error 13\n"}, {"\n \n", "error 13\n"}, {"step 0\r\n", "error 13\n"}, {"\r\n", "error 13\n"}, {"step 0 \n", "error 13\n"}, {"ask now\x00", "error 13\n"}, {"ask\nnow", "error 13\nerror 13\n"},
		{"ask now\n\nask out", "0\nnone\n"},
		{"spawn 3 1\nstep 1\nask queue 1\n# zz\nzz\ntick 5\nask now", "ret i1\nrun c1 i1\n1\nerror 13\nret\n5\n"},
		{"queue -1\nask free\nstep 1\nask free\nask done\n", "ret i1\n1\nwork c1 i1\nnone\n1\n"},
		{"ask online\noffline 1\nask busy\nstep 0\nstep 0\nask active", "0,1\nret\n1\nquiet\nquiet\n0\n"},
		{strings.Repeat("z", 300) + "\n" + strings.Repeat("z", 301) + "\n", "error 13\nerror 15\n"},
		{strings.Repeat("z", 301), "error 15\n"}, {"ask " + strings.Repeat("z", 400), "error 13\n"}, {"#" + strings.Repeat("z", 400) + "\nask now", "0\n"},
	} {
		runs(t, 2, c[0], c[1])
	}
}

func TestTextsOfMostBytes(t *testing.T) {
	runs(t, 2, strings.Repeat("\n", 16000), "")
	runs(t, 2, strings.Repeat("z\n", 8000), strings.Repeat("error 13\n", 8000))
	runs(t, 2, "#"+strings.Repeat("z", 15999), "")
	runs(t, 2, strings.Repeat("z", 16000), "error 15\n")
	runs(t, 2, strings.Repeat("ask now\n", 2000), strings.Repeat("0\n", 2000))
	runs(t, 2, strings.Repeat("tick 1\n", 2285)+"step ", strings.Repeat("ret\n", 2285)+"error 13\n")
	// Events of a text are not counted: there may be more than a script has.
	runs(t, 2, strings.Repeat("balance\n", 2000), strings.Repeat("ret\n", 2000))
	for _, text := range []string{strings.Repeat("\n", 16001), strings.Repeat("z\n", 8000) + "z", "#" + strings.Repeat("z", 16000), strings.Repeat("z", 16001), strings.Repeat("ask now\n", 2000) + "\n", strings.Repeat("balance\n", 2001), strings.Repeat("spawn 3 0\n", 5000), string(make([]byte, 16001))} {
		s := made(t, 2)
		if got, why := s.Run(text); got != "" || why != api.ErrSize {
			t.Errorf("Run of %d bytes = %.60q, %d", len(text), got, why)
		}
		if !reflect.DeepEqual(s.Kernel(), twin(t, 2)) {
			t.Errorf("a text of %d bytes that is refused changes something", len(text))
		}
	}
}

// P34.4, and P34.2 of any lines: shells of several sizes, each against a plain one to whose kernel nothing comes but events.
func TestAnyLines(t *testing.T) {
	pick := picks(34)
	seen := map[string]int{}
	for _, cpus := range []int{1, 2, 3, 5, 8, 64} {
		for range 6 {
			s, k := made(t, cpus), twin(t, cpus)
			for at := range 700 {
				line := anyLine(pick, cpus)
				want := plainDo(k, line)
				says(t, s, line, want...)
				for _, answer := range want {
					word, _, _ := strings.Cut(answer, " ")
					seen[word]++
				}
				for range pick(3) {
					ask := anyAsk(pick, cpus)
					answer := plainDo(k, ask)
					says(t, s, ask, answer...)
					says(t, s, ask, answer...)
				}
				if at%10 == 9 && !reflect.DeepEqual(s.Kernel(), k) {
					t.Fatalf("another kernel behind %q", line)
				}
			}
		}
	}
	for _, word := range []string{"ret", "run", "fire", "handle", "work", "call", "hot", "quiet", "error", "none"} {
		if seen[word] < 20 {
			t.Errorf("%s is answered %d times", word, seen[word])
		}
	}
}

// P34.4: whatever there is, each thing that may be asked is asked, over and over.
func TestAskingChangesNothing(t *testing.T) {
	pick := picks(340)
	asked, not := made(t, 2), made(t, 2)
	for range 1500 {
		line := anyLine(pick, 2)
		says(t, asked, line, not.Do(line)...)
		for _, ask := range allAsks() {
			if l := asked.Do(ask); len(l) != 1 || l[0] == "" || strings.HasPrefix(l[0], "error") {
				t.Fatalf("%s: %q", ask, l)
			}
		}
		if !reflect.DeepEqual(asked.Kernel(), not.Kernel()) {
			t.Fatalf("it is another kernel behind %q", line)
		}
	}
}

// P34.3 of any texts.
func TestAnyTexts(t *testing.T) {
	pick := picks(3400)
	for _, cpus := range []int{1, 2, 4, 64} {
		for many := range 25 {
			var l []string
			for range many * 12 {
				l = append(l, anyLine(pick, cpus))
			}
			text := strings.Join(l, "\n") + []string{"", "\n", "\n\n"}[pick(3)]
			if len(text) > 16000 {
				text = text[:16000]
			}
			runs(t, cpus, text, plainRun(twin(t, cpus), text))
		}
	}
}

// A text is done to the kernel that there is, and the kernel is the shell's own.
func TestRunGoesOn(t *testing.T) {
	s := made(t, 2)
	for _, c := range [][2]string{{"tick 5", "ret\n"}, {"ask now", "5\n"}, {"tick 2\nask now\n", "ret\n7\n"}} {
		if got, why := s.Run(c[0]); got != c[1] || why != api.OK {
			t.Fatalf("Run(%q) = %q, %d", c[0], got, why)
		}
	}
	says(t, s, "ask now", "7")
	if s.Kernel().Now() != 7 {
		t.Error("now", s.Kernel().Now())
	}
	s.Kernel().Do(api.Ev{Kind: api.EvTick, N: 3})
	says(t, s, "ask now", "10")
}

// What a caller writes into an answer is seen by no later one.
func TestAnswersAreTheCallers(t *testing.T) {
	s := made(t, 2)
	for _, line := range []string{"ask online", "ask threads", "zz", "ask zz", "balance", "step 1"} {
		first := s.Do(line)
		kept := slices.Clone(first)
		_ = append(first[:0:1], "y")
		first[0] = "x"
		says(t, s, line, kept...)
	}
}

// A shell that New did not make has no kernel; it does not panic either.
func TestShellWithoutAKernel(t *testing.T) {
	s := &shell.Shell{}
	for _, line := range append(allAsks(), "", "#", "zz", "ask", "ask zz", "step 0", "spawn 3 0", "balance") {
		if l := s.Do(line); len(l) > 1 {
			t.Errorf("Do(%q) = %q", line, l)
		}
	}
	if _, why := s.Run("step 0\nask now\n"); why != api.OK || s.Kernel() != nil {
		t.Error("Run", why)
	}
}
