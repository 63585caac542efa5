package mould

import (
	"strconv"
	"strings"

	"nacre/api"
)

// What a line is about, numbered as in forms.
const (
	bookLine = iota
	mouldLine
	markLine
	loanLine
	endLine
)

// forms is what lines look like: each # is a number. The line end has its CHECK.
var forms = [...]string{"book # #", "mould # # #", "mark # # #", "loan # # # from # #", "end"}

// reader is the lines of a text that were not read yet.
type reader []string

// Print returns the text of a book.
func Print(b api.MouldBook) (string, api.Errno) {
	if !isBook(b) {
		return "", api.ErrArg
	}
	lines := []string{written(bookLine, b.Miss, b.Ghost)}
	for _, m := range b.Moulds {
		lines = append(lines, written(mouldLine, m.Parent+1, m.Cut.Low, m.Cut.High))
		for _, x := range m.Marks {
			lines = append(lines, written(markLine, x.Spot, x.First.Low, x.First.High))
		}
		for _, x := range m.Loans {
			lines = append(lines, written(loanLine, x.House, x.Strikes.Low, x.Strikes.High, x.From.Low, x.From.High))
		}
	}
	lines = append(lines, lastLine(lines))
	return strings.Join(lines, "\n") + "\n", api.OK
}

// Read returns the book of a text.
func Read(text string) (api.MouldBook, api.Errno) {
	if len(text) > api.MouldText {
		return api.MouldBook{}, api.ErrLong
	}
	var b api.MouldBook
	if e := attempt(func() { b = parse(text) }); e != api.OK {
		return api.MouldBook{}, e
	}
	if !isBook(b) {
		return api.MouldBook{}, api.ErrArg
	}
	return b, api.OK
}

// written returns a line about something, with its numbers.
func written(about int, numbers ...int) string {
	text := forms[about]
	for _, n := range numbers {
		text = strings.Replace(text, "#", strconv.Itoa(n), 1)
	}
	return text
}

// lastLine returns the line that ends a text, with the CHECK of the lines before it.
func lastLine(lines []string) string {
	total := 0
	for i, text := range lines {
		for place := range len(text) {
			total += int(text[place]) * (place + 1) * (i + 1)
		}
	}
	return forms[endLine] + " " + strconv.Itoa(1000 + total%149)[1:]
}

// parse returns what a text says, as defined or not; it gives up if a text is none.
func parse(text string) api.MouldBook {
	lines := strings.Split(text, "\n")
	// behind the last line feed is nothing
	last := len(lines) - 2
	demand(last >= 0 && lines[last+1] == "" && lines[last] == lastLine(lines[:last]))
	r := reader(lines[:last])
	head := r.next(bookLine)
	b := api.MouldBook{Miss: head[0], Ghost: head[1]}
	for len(r) > 0 {
		b.Moulds = append(b.Moulds, r.mould())
	}
	return b
}

// mould returns the mould that the next lines say; it gives up if they say none.
func (r *reader) mould() api.MouldMould {
	n := r.next(mouldLine)
	m := api.MouldMould{Parent: n[0] - 1, Cut: api.Span{Low: n[1], High: n[2]}}
	for r.isAt(markLine) {
		n := r.next(markLine)
		m.Marks = append(m.Marks, api.MouldMark{Spot: n[0], First: api.Span{Low: n[1], High: n[2]}})
	}
	for r.isAt(loanLine) {
		n := r.next(loanLine)
		m.Loans = append(m.Loans, api.MouldLoan{House: n[0], Strikes: api.Span{Low: n[1], High: n[2]}, From: api.Span{Low: n[3], High: n[4]}})
	}
	return m
}

// isAt reports whether the next line begins as one about something.
func (r reader) isAt(about int) bool {
	return len(r) > 0 && strings.Split(r[0], " ")[0] == strings.Split(forms[about], " ")[0]
}

// next returns the numbers of the next line; it gives up if that is not one about something.
func (r *reader) next(about int) []int {
	demand(len(*r) > 0)
	words, form := strings.Split((*r)[0], " "), strings.Split(forms[about], " ")
	*r = (*r)[1:]
	demand(len(words) == len(form))
	var numbers []int
	for i, word := range words {
		if form[i] == "#" {
			numbers = append(numbers, number(word))
		} else {
			demand(word == form[i])
		}
	}
	return numbers
}

// number returns the number that is written so; it gives up if none is.
func number(digits string) int {
	demand(within(len(digits), 1, 3) && (digits[0] != '0' || digits == "0"))
	n := 0
	for _, digit := range digits {
		demand('0' <= digit && digit <= '9')
		n = 10*n + int(digit-'0')
	}
	return n
}

// demand gives up if a text is not as it must be.
func demand(is bool) {
	if !is {
		panic(misprint{})
	}
}
