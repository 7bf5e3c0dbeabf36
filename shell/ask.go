package shell

import (
	"strconv"
	"strings"

	"davit/api"
	"davit/show"
	"davit/work"
)

// none is told of things that there are none of.
const none = "none"

// asked is the line that answers what stands behind the word ask.
func (s *Shell) asked(what string) []string {
	answer, ok := s.answer(what)
	if !ok {
		return refused(api.ErrForm)
	}
	return []string{answer}
}

// answer is what is asked for, and whether that can be asked.
func (s *Shell) answer(what string) (string, bool) {
	k := s.kernel
	switch what {
	case "online":
		return orNone(show.Mask(uint64(k.Online()))), true
	case "active":
		return orNone(show.Mask(uint64(k.Active()))), true
	case "now":
		return decimal(k.Now()), true
	case "threads":
		return list(k.Threads().List()), true
	case "busy":
		return s.busy(), true
	case "free":
		return list(k.Works().List(work.Free)), true
	case "out":
		return list(k.Objects().Out()), true
	case "done":
		// The sum is there: no core can do so many things that it were too great.
		sum, _ := k.Counts().Sum()
		return decimal(sum), true
	}
	return s.ofCore(what)
}

// ofCore is the things of a core that are asked for, and whether they can be asked.
func (s *Shell) ofCore(what string) (string, bool) {
	name, word, _ := strings.Cut(what, blank)
	on := s.things(name)
	cpu, ok := s.core(word)
	if on == nil || !ok {
		return "", false
	}
	return list(on(cpu)), true
}

// things is what tells of each core its things of a name; nil, if there are none of that name.
func (s *Shell) things(name string) func(cpu int) []int {
	k := s.kernel
	switch name {
	case "queue":
		return k.Queues().List
	case "timers":
		return k.Timers().List
	case "works":
		return k.Works().List
	case "calls":
		return k.Calls().List
	case "kept":
		return k.Objects().Kept
	}
	return nil
}

// core is the core that a word tells, and whether there is one. A number has one word only: one that is read in another form is none.
func (s *Shell) core(word string) (int, bool) {
	cpu, err := strconv.Atoi(word)
	if err != nil || strconv.Itoa(cpu) != word || cpu < 0 || cpu >= s.kernel.Cpus() {
		return 0, false
	}
	return cpu, true
}

// busy is the core of the request, if there is one.
func (s *Shell) busy() string {
	desk := s.kernel.Desk()
	if !desk.Busy() {
		return none
	}
	return strconv.Itoa(desk.Cpu())
}

// list is numbers as a line.
func list(l []int) string {
	words := make([]string, 0, len(l))
	for _, n := range l {
		words = append(words, strconv.Itoa(n))
	}
	return orNone(strings.Join(words, blank))
}

// orNone is a line, but the word none of an empty one.
func orNone(line string) string {
	if line == "" {
		return none
	}
	return line
}

// decimal is a number as a line.
func decimal(n int64) string {
	return strconv.FormatInt(n, 10)
}
