package dye

import (
	"strconv"
	"strings"

	"nacre/api"
)

// The words with which lines begin, numbered as in beginnings.
const (
	houseWord = iota
	dyeWord
	stockWord
	bathWord
	endWord
)

var beginnings = [...]string{"house", "dye", "stock", "bath", "end"}

// line is a line of a text, before the last one.
type line interface {
	word() int
	numbers() []int
}

type houseLine struct {
	dyes, stocks int
}

type dyeLine struct {
	dye api.DyeDye
}

type stockLine struct {
	many, price, baths int
}

type bathLine struct {
	bath api.DyeBath
}

// draft is what was read of a text, and how many lines of each kind must come still.
type draft struct {
	begun               bool
	dyes, stocks, baths int
	house               api.DyeHouse
	list                []api.DyeStock
}

// Print returns the text of a house with stocks.
func Print(h api.DyeHouse, l []api.DyeStock) (string, api.Errno) {
	if !isHouse(h) || !areStocks(h, l) {
		return "", api.ErrArg
	}
	lines := []line{houseLine{len(h.Dyes), len(l)}}
	for _, d := range h.Dyes {
		lines = append(lines, dyeLine{d})
	}
	for _, s := range l {
		lines = append(lines, stockLine{s.Many, s.Price, len(s.Baths)})
		for _, b := range s.Baths {
			lines = append(lines, bathLine{b})
		}
	}
	var written []string
	for _, x := range lines {
		written = append(written, write(x))
	}
	written = append(written, lastLine(written))
	return strings.Join(written, "\n") + "\n", api.OK
}

// Read returns the house and the stocks of a text.
func Read(text string) (api.DyeHouse, []api.DyeStock, api.Errno) {
	if len(text) > api.DyeText {
		return api.DyeHouse{}, nil, api.ErrLong
	}
	var d draft
	if e := attempt(func() { d = parse(text) }); e != api.OK {
		return api.DyeHouse{}, nil, e
	}
	if !isHouse(d.house) || !areStocks(d.house, d.list) {
		return api.DyeHouse{}, nil, api.ErrArg
	}
	return d.house, d.list, api.OK
}

func (houseLine) word() int { return houseWord }

func (x houseLine) numbers() []int { return []int{x.dyes, x.stocks} }

func (dyeLine) word() int { return dyeWord }

func (x dyeLine) numbers() []int {
	n := []int{x.dye.Full}
	for _, s := range x.dye.Takes {
		n = append(n, s.Low, s.High)
	}
	return n
}

func (stockLine) word() int { return stockWord }

func (x stockLine) numbers() []int { return []int{x.many, x.price, x.baths} }

func (bathLine) word() int { return bathWord }

func (x bathLine) numbers() []int {
	return []int{x.bath.Dye, x.bath.Temper, x.bath.Hours.Low, x.bath.Hours.High}
}

// write returns a line as it is written.
func write(x line) string {
	text := beginnings[x.word()]
	for _, n := range x.numbers() {
		text += " " + strconv.Itoa(n)
	}
	return text
}

// lastLine returns the line that ends a text, with the CHECK of the lines before it.
func lastLine(lines []string) string {
	total := 0
	for _, text := range lines {
		for place := range len(text) {
			total += int(text[place]) * (place + 1)
		}
	}
	return beginnings[endWord] + " " + strconv.Itoa(1000 + total%113)[1:]
}

// parse returns what a text says, as defined or not; it gives up if a text is none.
func parse(text string) draft {
	lines := strings.Split(text, "\n")
	// behind the last line feed is nothing
	last := len(lines) - 2
	demand(last >= 0 && lines[last+1] == "" && lines[last] == lastLine(lines[:last]))
	var d draft
	for _, written := range lines[:last] {
		d.add(lineOf(written))
	}
	demand(d.begun && d.dyes == 0 && d.stocks == 0 && d.baths == 0)
	return d
}

// add adds what a line says to what was read before it; it gives up if the line must not come there.
func (d *draft) add(x line) {
	switch x := x.(type) {
	case houseLine:
		demand(!d.begun)
		d.begun, d.dyes, d.stocks = true, x.dyes, x.stocks
	case dyeLine:
		demand(d.dyes > 0)
		d.dyes--
		d.house.Dyes = append(d.house.Dyes, x.dye)
	case stockLine:
		demand(d.dyes == 0 && d.baths == 0 && d.stocks > 0)
		d.stocks--
		d.baths = x.baths
		d.list = append(d.list, api.DyeStock{Many: x.many, Price: x.price})
	case bathLine:
		demand(d.baths > 0)
		d.baths--
		stock := &d.list[len(d.list)-1]
		stock.Baths = append(stock.Baths, x.bath)
	}
}

// lineOf returns the line that is written so; it gives up if none is.
func lineOf(written string) line {
	parts := strings.Split(written, " ")
	var n []int
	for _, digits := range parts[1:] {
		n = append(n, number(digits))
	}
	word := parts[0]
	switch {
	case word == beginnings[houseWord] && len(n) == 2:
		return houseLine{n[0], n[1]}
	case word == beginnings[dyeWord] && len(n) == 1+2*api.DyeTempers:
		d := api.DyeDye{Full: n[0]}
		for i := 1; i < len(n); i += 2 {
			d.Takes = append(d.Takes, api.Span{Low: n[i], High: n[i+1]})
		}
		return dyeLine{d}
	case word == beginnings[stockWord] && len(n) == 3:
		return stockLine{n[0], n[1], n[2]}
	case word == beginnings[bathWord] && len(n) == 4:
		return bathLine{api.DyeBath{Dye: n[0], Temper: n[1], Hours: api.Span{Low: n[2], High: n[3]}}}
	}
	panic(misprint{})
}

// number returns the number that is written so; it gives up if none is.
func number(digits string) int {
	demand(within(len(digits), 1, 3) && (digits[0] != '0' || digits == "0"))
	n := 0
	for _, digit := range digits {
		demand('0' <= digit && digit <= '9')
		n = 10*n + int(digit-'0')
	}
	return n
}

// demand gives up if a text is not as it must be.
func demand(is bool) {
	if !is {
		panic(misprint{})
	}
}
