package card

import (
	"strconv"
	"strings"

	"nacre/api"
)

// The lines of a text, numbered as in beginnings.
const (
	roundWord = iota
	weighWord
	houseWord
	allWord
	endWord
)

var beginnings = [...]string{"round", "weigh", "house", "all", "end"}

// line is a line of a text, before the last one.
type line interface {
	word() int
	numbers() []int
}

type roundLine struct {
	per, houses int
}

type weighLine struct {
	button      api.Span
	card, slack int
}

type houseLine struct {
	house api.CardHouse
}

type allLine struct {
	all, off int
}

// draft is what was read of a round, which line must come next, and how many lines of houses must come still.
type draft struct {
	api.CardRound
	next, houses int
}

// Print returns the text of a round.
func Print(r api.CardRound) (string, api.Errno) {
	if !isRound(r) {
		return "", api.ErrArg
	}
	lines := []line{roundLine{r.Per, len(r.Houses)}, weighLine{r.Button, r.Card, r.Slack}}
	for _, h := range r.Houses {
		lines = append(lines, houseLine{h})
	}
	lines = append(lines, allLine{r.All, r.Off})
	var written []string
	for _, x := range lines {
		written = append(written, write(x))
	}
	written = append(written, lastLine(written))
	return strings.Join(written, "\n") + "\n", api.OK
}

// Read returns the round of a text.
func Read(text string) (api.CardRound, api.Errno) {
	if len(text) > api.CardText {
		return api.CardRound{}, api.ErrLong
	}
	var r api.CardRound
	if e := attempt(func() { r = parse(text) }); e != api.OK {
		return api.CardRound{}, e
	}
	if !isRound(r) {
		return api.CardRound{}, api.ErrArg
	}
	return r, api.OK
}

func (roundLine) word() int { return roundWord }

func (x roundLine) numbers() []int { return []int{x.per, x.houses} }

func (weighLine) word() int { return weighWord }

func (x weighLine) numbers() []int {
	return []int{x.button.Low, x.button.High, x.card, x.slack}
}

func (houseLine) word() int { return houseWord }

func (x houseLine) numbers() []int {
	h := x.house
	return []int{h.Out, h.Cards, h.Full, h.Loose, h.Miss, h.Weighed}
}

func (allLine) word() int { return allWord }

func (x allLine) numbers() []int { return []int{x.all, x.off} }

// write returns a line as it is written.
func write(x line) string {
	text := beginnings[x.word()]
	for _, n := range x.numbers() {
		text += " " + strconv.Itoa(n)
	}
	return text
}

// lastLine returns the line that ends a text, with the CHECK of the lines before it.
func lastLine(lines []string) string {
	total := 0
	for i, text := range lines {
		for place := range len(text) {
			total += int(text[place]) * (place + 1) * (i + 1)
		}
	}
	return beginnings[endWord] + " " + strconv.Itoa(1000 + total%139)[1:]
}

// parse returns what a text says, as defined or not; it gives up if a text is none.
func parse(text string) api.CardRound {
	lines := strings.Split(text, "\n")
	// behind the last line feed is nothing
	last := len(lines) - 2
	demand(last >= 0 && lines[last+1] == "" && lines[last] == lastLine(lines[:last]))
	d := draft{next: roundWord}
	for _, written := range lines[:last] {
		d.add(lineOf(written))
	}
	demand(d.next == endWord)
	return d.CardRound
}

// add adds what a line says to what was read before it; it gives up if the line must not come there.
func (d *draft) add(x line) {
	demand(x.word() == d.next)
	switch x := x.(type) {
	case roundLine:
		d.Per, d.houses = x.per, x.houses
		d.next = weighWord
	case weighLine:
		d.Button, d.Card, d.Slack = x.button, x.card, x.slack
		d.next = houseWord
	case houseLine:
		d.Houses = append(d.Houses, x.house)
		d.houses--
	case allLine:
		d.All, d.Off = x.all, x.off
		d.next = endWord
	}
	if d.next == houseWord && d.houses == 0 {
		d.next = allWord
	}
}

// lineOf returns the line that is written so; it gives up if none is.
func lineOf(written string) line {
	parts := strings.Split(written, " ")
	var n []int
	for _, digits := range parts[1:] {
		n = append(n, number(digits))
	}
	word := parts[0]
	switch {
	case word == beginnings[roundWord] && len(n) == 2:
		return roundLine{n[0], n[1]}
	case word == beginnings[weighWord] && len(n) == 4:
		return weighLine{api.Span{Low: n[0], High: n[1]}, n[2], n[3]}
	case word == beginnings[houseWord] && len(n) == 6:
		return houseLine{api.CardHouse{Out: n[0], Cards: n[1], Full: n[2], Loose: n[3], Miss: n[4], Weighed: n[5]}}
	case word == beginnings[allWord] && len(n) == 2:
		return allLine{n[0], n[1]}
	}
	panic(misprint{})
}

// number returns the number that is written so; it gives up if none is.
func number(digits string) int {
	demand(within(len(digits), 1, 6) && (digits[0] != '0' || digits == "0"))
	n := 0
	for _, digit := range digits {
		demand('0' <= digit && digit <= '9')
		n = 10*n + int(digit-'0')
	}
	return n
}

// demand gives up if a text is not as it must be.
func demand(is bool) {
	if !is {
		panic(misprint{})
	}
}
