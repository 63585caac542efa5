package river

import (
	"strconv"
	"strings"

	"nacre/api"
)

// The words that lines begin with, numbered as in words.
const (
	bookWord = iota
	riverWord
	endWord
)

var words = [...]string{"book", "river", "end"}

// Print returns the text of a book.
func Print(b api.RiverBook) (string, api.Errno) {
	if !isBook(b) {
		return "", api.ErrArg
	}
	lines := []string{written(bookWord, b.Years, len(b.Rivers))}
	for _, r := range b.Rivers {
		numbers := []int{r.Vary, r.Closed}
		for _, grow := range r.Grow {
			numbers = append(numbers, grow.Low, grow.High)
		}
		lines = append(lines, written(riverWord, numbers...))
	}
	lines = append(lines, lastLine(lines))
	return strings.Join(lines, "\n") + "\n", api.OK
}

// Read returns the book of a text.
func Read(text string) (api.RiverBook, api.Errno) {
	if len(text) > api.RiverText {
		return api.RiverBook{}, api.ErrLong
	}
	var b api.RiverBook
	if e := attempt(func() { b = parse(text) }); e != api.OK {
		return api.RiverBook{}, e
	}
	if !isBook(b) {
		return api.RiverBook{}, api.ErrArg
	}
	return b, api.OK
}

// written returns a line of a word and numbers.
func written(word int, numbers ...int) string {
	text := words[word]
	for _, n := range numbers {
		text += " " + strconv.Itoa(n)
	}
	return text
}

// lastLine returns the line that ends a text, with the CHECK of the lines before it.
func lastLine(lines []string) string {
	total := 0
	for i, text := range lines {
		for place := range len(text) {
			total += int(text[place]) * (place + 1) * (i + 1)
		}
	}
	return words[endWord] + " " + strconv.Itoa(1000 + total%131)[1:]
}

// parse returns what a text says, as defined or not; it gives up if a text is none.
func parse(text string) api.RiverBook {
	lines := strings.Split(text, "\n")
	// behind the last line feed is nothing
	last := len(lines) - 2
	demand(last >= 1 && lines[last+1] == "" && lines[last] == lastLine(lines[:last]))
	head := numbers(bookWord, lines[0])
	demand(len(head) == 2 && head[1] == last-1)
	b := api.RiverBook{Years: head[0]}
	for _, line := range lines[1:last] {
		b.Rivers = append(b.Rivers, river(line, b.Years))
	}
	return b
}

// river returns the river that a line says, of a book of so many years; it gives up if it says none.
func river(line string, years int) api.RiverRiver {
	n := numbers(riverWord, line)
	demand(len(n) == 2+2*years)
	r := api.RiverRiver{Vary: n[0], Closed: n[1]}
	for year := range years {
		r.Grow = append(r.Grow, api.Span{Low: n[2+2*year], High: n[3+2*year]})
	}
	return r
}

// numbers returns the numbers of a line behind its word; it gives up if that is another one.
func numbers(word int, line string) []int {
	parts := strings.Split(line, " ")
	demand(parts[0] == words[word])
	var all []int
	for _, part := range parts[1:] {
		all = append(all, number(part))
	}
	return all
}

// number returns the number that is written so; it gives up if none is.
func number(digits string) int {
	demand(within(len(digits), 1, 3) && (digits[0] != '0' || digits == "0"))
	n := 0
	for _, digit := range digits {
		demand('0' <= digit && digit <= '9')
		n = 10*n + int(digit-'0')
	}
	return n
}

// demand gives up if a text is not as it must be.
func demand(is bool) {
	if !is {
		panic(misprint{})
	}
}
