package order

import (
	"strconv"
	"strings"

	"nacre/api"
)

// The lines of a text, numbered as in beginnings.
const (
	bookWord = iota
	goodWord
	entryWord
	endWord
)

var beginnings = [...]string{"book", "good", "entry", "end"}

// line is a line of a text, before the last one.
type line interface {
	word() int
	numbers() []int
}

type bookLine struct {
	editions, moves int
}

type goodLine struct {
	good api.OrderGood
}

type entryLine struct {
	entry api.OrderEntry
}

// draft is what was read of a book, and whether its first line was.
type draft struct {
	api.OrderBook
	begun bool
}

// Print returns the text of a book.
func Print(b api.OrderBook) (string, api.Errno) {
	if !isBook(b) {
		return "", api.ErrArg
	}
	lines := []line{bookLine{b.Editions, b.Moves}}
	for _, g := range b.Goods {
		lines = append(lines, goodLine{g})
	}
	for _, e := range b.Entries {
		lines = append(lines, entryLine{e})
	}
	var written []string
	for _, x := range lines {
		written = append(written, write(x))
	}
	written = append(written, lastLine(written))
	return strings.Join(written, "\n") + "\n", api.OK
}

// Read returns the book of a text.
func Read(text string) (api.OrderBook, api.Errno) {
	if len(text) > api.OrderText {
		return api.OrderBook{}, api.ErrLong
	}
	var b api.OrderBook
	if e := attempt(func() { b = parse(text) }); e != api.OK {
		return api.OrderBook{}, e
	}
	if !isBook(b) {
		return api.OrderBook{}, api.ErrArg
	}
	return b, api.OK
}

func (bookLine) word() int { return bookWord }

func (x bookLine) numbers() []int { return []int{x.editions, x.moves} }

func (goodLine) word() int { return goodWord }

func (x goodLine) numbers() []int { return []int{x.good.Line} }

func (entryLine) word() int { return entryWord }

func (x entryLine) numbers() []int { return []int{x.entry.Edition, x.entry.Number, x.entry.Good} }

// write returns a line as it is written.
func write(x line) string {
	text := beginnings[x.word()]
	for _, n := range x.numbers() {
		text += " " + strconv.Itoa(n)
	}
	return text
}

// lastLine returns the line that ends a text, with the CHECK of the lines before it.
func lastLine(lines []string) string {
	sum := 0
	for i, text := range lines {
		for place := range len(text) {
			sum += int(text[place]) * (place + 1) * (i + 1)
		}
	}
	return beginnings[endWord] + " " + strconv.Itoa(1000 + sum%151)[1:]
}

// parse returns what a text says, as defined or not; it gives up if a text is none.
func parse(text string) api.OrderBook {
	lines := strings.Split(text, "\n")
	// behind the last line feed is nothing
	last := len(lines) - 2
	demand(last >= 0 && lines[last+1] == "" && lines[last] == lastLine(lines[:last]))
	var d draft
	for _, written := range lines[:last] {
		d.add(lineOf(written))
	}
	demand(d.begun)
	return d.OrderBook
}

// add adds what a line says to what was read before it; it gives up if the line must not come there.
func (d *draft) add(x line) {
	switch x := x.(type) {
	case bookLine:
		demand(!d.begun)
		d.begun, d.Editions, d.Moves = true, x.editions, x.moves
	case goodLine:
		demand(d.begun && len(d.Entries) == 0)
		d.Goods = append(d.Goods, x.good)
	case entryLine:
		demand(d.begun)
		d.Entries = append(d.Entries, x.entry)
	}
}

// lineOf returns the line that is written so; it gives up if none is.
func lineOf(written string) line {
	parts := strings.Split(written, " ")
	var n []int
	for _, digits := range parts[1:] {
		n = append(n, number(digits))
	}
	word := parts[0]
	switch {
	case word == beginnings[bookWord] && len(n) == 2:
		return bookLine{n[0], n[1]}
	case word == beginnings[goodWord] && len(n) == 1:
		return goodLine{api.OrderGood{Line: n[0]}}
	case word == beginnings[entryWord] && len(n) == 3:
		return entryLine{api.OrderEntry{Edition: n[0], Number: n[1], Good: n[2]}}
	}
	panic(misprint{})
}

// number returns the number that is written so; it gives up if none is.
func number(digits string) int {
	demand(within(len(digits), 1, 2) && (digits[0] != '0' || digits == "0"))
	n := 0
	for _, digit := range digits {
		demand('0' <= digit && digit <= '9')
		n = 10*n + int(digit-'0')
	}
	return n
}

// demand gives up if a text is not as it must be.
func demand(is bool) {
	if !is {
		panic(misprint{})
	}
}
