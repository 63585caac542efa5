package foreman

import (
	"iter"
	"slices"
	"strconv"
	"strings"

	"nacre/api"
)

// shape is the word that a line begins with, and how many numbers follow it.
type shape struct {
	word string
	many int
}

// entryShapes are the shapes of entries, in the order of their kinds.
var entryShapes = [...]shape{{"cut", 3}, {"take", 3}, {"send", 2}, {"bring", 2}, {"find", 2}, {"strike", 1}}

// askShapes are the shapes of questions.
var askShapes = [asks]shape{
	slicesAsk: {"slices", 0},
	worthAsk:  {"worth", 0},
	bestAsk:   {"best", 0},
	soundAsk:  {"sound", 0},
	givesAsk:  {"gives", 3},
	windowAsk: {"window", 1},
	dueAsk:    {"due", 1},
	whoAsk:    {"who", 0},
	mouldsAsk: {"moulds", 2},
	standsAsk: {"stands", 0},
}

// row is a row of a table of lines: what all of its lines have in common.
type row interface {
	shape() shape
}

// entryRow is the row of a kind of entries.
type entryRow api.ForemanKind

func (x entryRow) shape() shape { return entryShapes[x-entryRow(api.ForemanCut)] }

func (x askRow) shape() shape { return askShapes[x] }

// Write returns the line of an entry.
func Write(x api.ForemanEntry) (string, api.Errno) {
	if !isFormed(x) {
		return "", api.ErrArg
	}
	return entryRow(x.Kind).shape().word + " " + joined(x.Numbers...), api.OK
}

// Parse returns the entry of a line.
func Parse(line string) (api.ForemanEntry, api.Errno) {
	if len(line) > api.ForemanLine {
		return api.ForemanEntry{}, api.ErrLong
	}
	var x api.ForemanEntry
	e := attempt(func() { x = parse(line) })
	return x, e
}

// isFormed reports whether an entry is formed.
func isFormed(x api.ForemanEntry) bool {
	if !within(int(x.Kind), int(api.ForemanCut), int(api.ForemanStrike)) || len(x.Numbers) != entryRow(x.Kind).shape().many {
		return false
	}
	return !slices.ContainsFunc(x.Numbers, func(n int) bool { return !within(n, 0, api.ForemanNumber) })
}

// parse returns the entry of a line; it gives up if the line is not that of one.
func parse(line string) api.ForemanEntry {
	x, numbers := read(line)
	kind, isEntry := x.(entryRow)
	spell(isEntry)
	return api.ForemanEntry{Kind: api.ForemanKind(kind), Numbers: numbers}
}

// read returns the row of a line, and its numbers; it gives up if the line is none.
func read(line string) (row, []int) {
	words := strings.Split(line, " ")
	var numbers []int
	for _, digits := range words[1:] {
		numbers = append(numbers, number(digits))
	}
	for x := range rows() {
		if x.shape() == (shape{words[0], len(numbers)}) {
			return x, numbers
		}
	}
	panic(misprint{})
}

// rows goes through the rows of all lines.
func rows() iter.Seq[row] {
	return func(yield func(row) bool) {
		for kind := api.ForemanCut; kind <= api.ForemanStrike; kind++ {
			if !yield(entryRow(kind)) {
				return
			}
		}
		for x := range asks {
			if !yield(x) {
				return
			}
		}
	}
}

// number returns the number that is written so; it gives up if none is.
func number(digits string) int {
	spell(digits != "" && (digits[0] != '0' || digits == "0"))
	n := 0
	for _, digit := range digits {
		spell('0' <= digit && digit <= '9')
		n = 10*n + int(digit-'0')
		spell(n <= api.ForemanNumber)
	}
	return n
}

// spell gives up if a line is not as it must be.
func spell(is bool) {
	if !is {
		panic(misprint{})
	}
}

// joined returns numbers as they are written in a line.
func joined(numbers ...int) string {
	var written []string
	for _, n := range numbers {
		written = append(written, strconv.Itoa(n))
	}
	return strings.Join(written, " ")
}
