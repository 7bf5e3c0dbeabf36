package words

import (
	"strconv"
	"strings"

	"davit/api"
	"davit/mask"
)

// The letters of an event's fields.
const (
	ofCpu  = 'c'
	ofId   = 'i'
	ofMask = 'm'
	ofN    = 'n'
)

// comma stands between the cores of a mask.
const comma = ","

// must hands up that a word can not be, unless it can.
func must(can bool) {
	if !can {
		panic(api.ErrForm)
	}
}

// take is an event's field as a word. It is 0 from then on, so that what was not taken is seen.
func take(e *api.Ev, letter rune) string {
	word := ""
	switch letter {
	case ofCpu:
		word, e.Cpu = decimal(int64(e.Cpu)), 0
	case ofId:
		word, e.Id = decimal(int64(e.Id)), 0
	case ofMask:
		word, e.Mask = cpus(mask.Mask(e.Mask)), 0
	case ofN:
		word, e.N = decimal(e.N), 0
	}
	return word
}

// put lets an event's field be what a word tells.
func put(e *api.Ev, letter rune, word string) {
	switch letter {
	case ofCpu:
		e.Cpu = int(number(word))
	case ofId:
		e.Id = int(number(word))
	case ofMask:
		e.Mask = uint64(set(word))
	case ofN:
		e.N = number(word)
	}
}

// decimal is a number as a word.
func decimal(n int64) string {
	return strconv.FormatInt(n, 10)
}

// number is what a word tells. A number has one word only: one that is read in another form, or not as a whole, is none.
func number(word string) int64 {
	n, _ := strconv.ParseInt(word, 10, 64)
	must(decimal(n) == word)
	return n
}

// cpus is a mask as a word.
func cpus(m mask.Mask) string {
	var list []string
	for _, cpu := range m.List() {
		list = append(list, decimal(int64(cpu)))
	}
	return strings.Join(list, comma)
}

// set is the mask that a word tells. It too has one word only: numbers that are no cores, or do not rise, are not told back.
func set(word string) mask.Mask {
	if word == "" {
		return 0
	}
	var list []int
	for _, cpu := range strings.Split(word, comma) {
		list = append(list, int(number(cpu)))
	}
	m := mask.Of(list...)
	must(cpus(m) == word)
	return m
}
