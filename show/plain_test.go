package show_test

import (
	"fmt"
	"math/big"
	"regexp"
	"strings"

	"davit/api"
)

// kinds are the chapter's words, from the kind 1 on.
var kinds = strings.Split("ret run fire handle work call hot", " ")

// plainLine is a record's line; none, if it has none.
func plainLine(r api.Rec) string {
	if r.Kind < 1 || r.Kind > len(kinds) {
		return ""
	}
	line := kinds[r.Kind-1]
	if r.Cpu != 0 {
		line += fmt.Sprintf(" c%d", r.Cpu)
	}
	if r.Id != 0 {
		line += fmt.Sprintf(" i%d", r.Id)
	}
	if r.N != 0 {
		line += fmt.Sprintf(" n%d", r.N)
	}
	if r.Why != 0 {
		line += fmt.Sprintf(" e%d", int(r.Why))
	}
	return line
}

// aLine is what a record's line looks like, whatever the size of its numbers.
var aLine = regexp.MustCompile(`^(ret|run|fire|handle|work|call|hot)(?: c(-?[1-9][0-9]*))?(?: i(-?[1-9][0-9]*))?(?: n(-?[1-9][0-9]*))?(?: e(-?[1-9][0-9]*))?$`)

// plainBack is the record whose line this is, its numbers read in numbers of any size.
func plainBack(line string) (api.Rec, api.Errno) {
	parts := aLine.FindStringSubmatch(line)
	if parts == nil {
		return api.Rec{}, api.ErrForm
	}
	var of [4]int64
	for at, word := range parts[2:] {
		if word == "" {
			continue
		}
		n, _ := new(big.Int).SetString(word, 10)
		if !n.IsInt64() {
			return api.Rec{}, api.ErrForm
		}
		of[at] = n.Int64()
	}
	r := api.Rec{Cpu: int(of[0]), Id: int(of[1]), N: of[2], Why: api.Errno(of[3])}
	for at, word := range kinds {
		if word == parts[1] {
			r.Kind = at + 1
		}
	}
	return r, api.OK
}

// plainMask is the numbers of a mask's bits.
func plainMask(m uint64) string {
	text := ""
	for bit := range 64 {
		if m>>bit%2 == 1 {
			text += fmt.Sprintf(",%d", bit)
		}
	}
	return strings.TrimPrefix(text, ",")
}

// picks makes numbers by a fixed rule.
func picks(state uint64) func(n int) int {
	return func(n int) int {
		state = state*6364136223846793005 + 1442695040888963407
		return int(state>>33) % n
	}
}

// anyRecord is a record of any kind that is one, with numbers of all sizes, some of which are 0.
func anyRecord(pick func(n int) int) api.Rec {
	some := func() int64 {
		n := int64(pick(1<<30))<<34 ^ int64(pick(1<<30))<<8 ^ int64(pick(256))
		if pick(2) == 0 {
			n = ^n
		}
		return n >> pick(64) * int64(pick(2))
	}
	return api.Rec{Kind: 1 + pick(7), Cpu: int(some()), Id: int(some()), N: some(), Why: api.Errno(some())}
}
