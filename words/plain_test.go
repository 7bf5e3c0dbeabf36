package words_test

import (
	"fmt"
	"math/big"
	"regexp"
	"strings"

	"davit/api"
)

// shapes are the chapter's lines, as it writes them.
var shapes = strings.Split(`step CPU; tick N; spawn ID MASK; exit ID; yield ID; sleep ID N; wake ID; affin ID MASK; where ID; arm CPU N; cancel ID; request ID MASK; free ID; route ID MASK; mask ID; unmask ID; raise ID; queue CPU; flush ID; call CPU; alloc CPU; give CPU ID; online CPU; offline CPU; fail N; hold CPU; drop CPU; limit N; speed ID N; balance`, "; ")

// shape is what a kind's line is: its word, and the names of the fields behind it.
func shape(kind int) (string, []string) {
	words := strings.Split(shapes[kind-1], " ")
	return words[0], words[1:]
}

// plainLine is an event's line; none, if it has none.
func plainLine(e api.Ev) (string, bool) {
	if e.Kind < 1 || e.Kind > len(shapes) {
		return "", false
	}
	line, names := shape(e.Kind)
	named := map[string]bool{}
	for _, name := range names {
		named[name] = true
		line += " "
		switch name {
		case "CPU":
			line += fmt.Sprint(e.Cpu)
		case "ID":
			line += fmt.Sprint(e.Id)
		case "N":
			line += fmt.Sprint(e.N)
		case "MASK":
			line += plainCpus(e.Mask)
		}
	}
	ok := (named["CPU"] || e.Cpu == 0) && (named["ID"] || e.Id == 0) && (named["N"] || e.N == 0) && (named["MASK"] || e.Mask == 0)
	return line, ok
}

func plainCpus(m uint64) string {
	text := ""
	for cpu := range 64 {
		if m>>cpu%2 == 1 {
			text += fmt.Sprintf(",%d", cpu)
		}
	}
	return strings.TrimPrefix(text, ",")
}

var (
	aNumber = regexp.MustCompile(`^(0|-?[1-9][0-9]*)$`)
	aMask   = regexp.MustCompile(`^((0|[1-9][0-9]?)(,[1-9][0-9]?)*)?$`)
)

// plainNumber is the number that a word tells, in numbers of any size.
func plainNumber(word string) (int64, bool) {
	if !aNumber.MatchString(word) {
		return 0, false
	}
	n, _ := new(big.Int).SetString(word, 10)
	return n.Int64(), n.IsInt64()
}

// plainMask is the mask that a word tells.
func plainMask(word string) (uint64, bool) {
	if !aMask.MatchString(word) {
		return 0, false
	}
	m, last := uint64(0), int64(-1)
	for _, one := range strings.FieldsFunc(word, func(r rune) bool { return r == ',' }) {
		cpu, _ := plainNumber(one)
		if cpu <= last || cpu > 63 {
			return 0, false
		}
		m, last = m|1<<cpu, cpu
	}
	return m, true
}

// plainParse is the event whose line this is, word by word.
func plainParse(line string) (api.Ev, api.Errno) {
	if len(line) > 300 {
		return api.Ev{}, api.ErrSize
	}
	for kind := 1; kind <= len(shapes); kind++ {
		word, names := shape(kind)
		parts := strings.Split(line, " ")
		if parts[0] != word || len(parts) != 1+len(names) {
			continue
		}
		e := api.Ev{Kind: kind}
		for at, name := range names {
			n, ok := plainNumber(parts[1+at])
			if name == "MASK" {
				e.Mask, ok = plainMask(parts[1+at])
			}
			if !ok {
				return api.Ev{}, api.ErrForm
			}
			switch name {
			case "CPU":
				e.Cpu = int(n)
			case "ID":
				e.Id = int(n)
			case "N":
				e.N = n
			}
		}
		return e, api.OK
	}
	return api.Ev{}, api.ErrForm
}

// picks makes numbers by a fixed rule.
func picks(state uint64) func(n int) int {
	return func(n int) int {
		state = state*6364136223846793005 + 1442695040888963407
		return int(state>>33) % n
	}
}

// anyEvent is an event of any kind, whose line names all of its fields that are not 0, with numbers of all sizes.
func anyEvent(pick func(n int) int) api.Ev {
	some := func() int64 {
		n := int64(pick(1<<30))<<34 ^ int64(pick(1<<30))<<8 ^ int64(pick(256))
		if pick(2) == 0 {
			n = ^n
		}
		return n >> pick(64)
	}
	e := api.Ev{Kind: 1 + pick(30)}
	_, names := shape(e.Kind)
	for _, name := range names {
		switch name {
		case "CPU":
			e.Cpu = int(some())
		case "ID":
			e.Id = int(some())
		case "N":
			e.N = some()
		case "MASK":
			e.Mask = uint64(some())
		}
	}
	return e
}
