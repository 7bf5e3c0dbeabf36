package shell_test

import (
	"fmt"
	"math/big"
	"regexp"
	"strings"

	"davit/api"
	"davit/kernel"
	"davit/words"
)

// askable are the chapter's lines that ask, for the core 0 where one is named.
var askable = []string{"online", "active", "now", "threads", "busy", "queue 0", "timers 0", "works 0", "calls 0", "kept 0", "free", "out", "done"}

// plainDo is what a line is answered by, from a kernel of the test's own.
func plainDo(k *kernel.Kernel, line string) []string {
	if line == "" || line[0] == '#' {
		return nil
	}
	if strings.Index(line, "ask ") == 0 {
		if answer, ok := plainAsk(k, line[4:]); ok {
			return []string{answer}
		}
		return []string{"error 13"}
	}
	e, why := words.Parse(line)
	if why != api.OK {
		return []string{fmt.Sprintf("error %d", int(why))}
	}
	var l []string
	for _, r := range k.Do(e) {
		l = append(l, plainRecord(r))
	}
	if l == nil {
		l = []string{"quiet"}
	}
	return l
}

// plainRecord is a record's line.
func plainRecord(r api.Rec) string {
	line := map[int]string{1: "ret", 2: "run", 3: "fire", 4: "handle", 5: "work", 6: "call", 7: "hot"}[r.Kind]
	for _, f := range []struct {
		letter string
		n      int64
	}{{"c", int64(r.Cpu)}, {"i", int64(r.Id)}, {"n", r.N}, {"e", int64(r.Why)}} {
		if f.n != 0 {
			line += fmt.Sprintf(" %s%d", f.letter, f.n)
		}
	}
	return line
}

var (
	aCore   = regexp.MustCompile(`^(queue|timers|works|calls|kept) (0|-?[1-9][0-9]*)$`)
	aNumber = regexp.MustCompile(`^(0|-?[1-9][0-9]*)$`)
)

// plainAsk is the answer to what is asked, and whether that can be asked.
func plainAsk(k *kernel.Kernel, what string) (string, bool) {
	var l []int
	between := " "
	switch what {
	case "now":
		return fmt.Sprint(k.Now()), true
	case "done":
		sum := int64(0)
		for _, n := range k.Counts().List() {
			sum += n
		}
		return fmt.Sprint(sum), true
	case "online":
		l, between = k.Online().List(), ","
	case "active":
		l, between = k.Active().List(), ","
	case "threads":
		l = k.Threads().List()
	case "busy":
		if k.Desk().Busy() {
			l = []int{k.Desk().Cpu()}
		}
	case "free":
		l = k.Works().List(-1)
	case "out":
		l = k.Objects().Out()
	default:
		parts := aCore.FindStringSubmatch(what)
		if parts == nil {
			return "", false
		}
		n, _ := new(big.Int).SetString(parts[2], 10)
		if n.Sign() < 0 || n.Cmp(big.NewInt(int64(k.Cpus()))) >= 0 {
			return "", false
		}
		cpu := int(n.Int64())
		l = map[string][]int{"queue": k.Queues().List(cpu), "timers": k.Timers().List(cpu), "works": k.Works().List(cpu), "calls": k.Calls().List(cpu), "kept": k.Objects().Kept(cpu)}[parts[1]]
	}
	if len(l) == 0 {
		return "none", true
	}
	return strings.ReplaceAll(strings.Trim(fmt.Sprint(l), "[]"), " ", between), true
}

// plainRun is the answers to a text's lines.
func plainRun(k *kernel.Kernel, text string) string {
	all, line := "", ""
	for at := range len(text) {
		if text[at] != 10 {
			line += text[at : at+1]
			if at+1 < len(text) {
				continue
			}
		}
		for _, answer := range plainDo(k, line) {
			all += answer + "\n"
		}
		line = ""
	}
	return all
}

// picks makes numbers by a fixed rule.
func picks(state uint64) func(n int) int {
	return func(n int) int {
		state = state*6364136223846793005 + 1442695040888963407
		return int(state>>33) % n
	}
}

// anyLine is a line of any sort: mostly an event's, half of these steps, of things that may be there; some that ask; some that are none.
func anyLine(pick func(n int) int, cpus int) string {
	switch pick(40) {
	case 0:
		return []string{"", "#", "# step 0", "zz", "ask", "ask ", "step", "step 01", "step 0 ", " step 0", "ask  now", "ask now ", "spawn 1", "\x00", "\xff", "ask queue", "ask kept 0 0", "Step 0", "#step 0", "quiet", "ret", "none", "balance 0"}[pick(23)]
	case 1, 2, 3, 4:
		return anyAsk(pick, cpus)
	}
	e := api.Ev{Kind: api.EvStep}
	if pick(2) == 0 {
		e.Kind = 1 + pick(30)
	}
	name := words.Name(e.Kind)
	cpu, id, n := pick(cpus+1)-pick(2), []int{pick(4), pick(17), pick(98)}[pick(3)], []int{pick(4), pick(100), pick(2000) - 5}[pick(3)]
	var set []string
	for core := range cpus {
		if pick(2) == 0 {
			set = append(set, fmt.Sprint(core))
		}
	}
	switch e.Kind {
	case api.EvTick, api.EvFail, api.EvLimit:
		return fmt.Sprint(name, " ", n)
	case api.EvSpawn, api.EvAffin, api.EvRequest, api.EvRoute:
		return fmt.Sprint(name, " ", id, " ", strings.Join(set, ","))
	case api.EvExit, api.EvYield, api.EvWake, api.EvWhere, api.EvCancel, api.EvFree, api.EvMask, api.EvUnmask, api.EvRaise, api.EvFlush:
		return fmt.Sprint(name, " ", id)
	case api.EvSleep, api.EvSpeed:
		return fmt.Sprint(name, " ", id, " ", n)
	case api.EvArm:
		return fmt.Sprint(name, " ", cpu, " ", n)
	case api.EvGive:
		return fmt.Sprint(name, " ", cpu, " ", id)
	case api.EvBalance:
		return name
	case api.EvHold: // seldom, so that requests come to their ends
		if pick(3) > 0 {
			return fmt.Sprint("drop ", cpu)
		}
	}
	return fmt.Sprint(name, " ", cpu)
}

// anyAsk is a line that asks, of a core that there is mostly.
func anyAsk(pick func(n int) int, cpus int) string {
	what := askable[pick(len(askable))]
	if head, _, ofCore := strings.Cut(what, " "); ofCore {
		what = fmt.Sprint(head, " ", pick(cpus+2)-pick(2))
	}
	return "ask " + what
}
