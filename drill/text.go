package drill

import (
	"strconv"
	"strings"

	"nacre/api"
)

// The words with which lines begin, numbered as in words.
const (
	machineWord = iota
	stopWord
	chuckWord
	wearWord
	readingWord
	endWord
)

var words = [...]string{"machine", "stop", "chuck", "wear", "reading", "end"}

// reader is the lines of a text that were not read yet.
type reader []string

// Print returns the text of a machine.
func Print(m api.DrillMachine) (string, api.Errno) {
	if !isMachine(m) {
		return "", api.ErrArg
	}
	lines := []string{line(machineWord, len(m.Stops), len(m.Readings))}
	for _, p := range m.Stops {
		lines = append(lines, line(stopWord, p.X, p.Y))
	}
	lines = append(lines, line(chuckWord, m.ChuckX.Low, m.ChuckX.High, m.ChuckY.Low, m.ChuckY.High))
	lines = append(lines, line(wearWord, m.WearX.Low, m.WearX.High, m.WearY.Low, m.WearY.High))
	for _, r := range m.Readings {
		lines = append(lines, line(readingWord, r.Blank, r.X, r.Y, r.Err))
	}
	lines = append(lines, lastLine(lines))
	return strings.Join(lines, "\n") + "\n", api.OK
}

// Read returns the machine of a text.
func Read(text string) (api.DrillMachine, api.Errno) {
	if len(text) > api.DrillText {
		return api.DrillMachine{}, api.ErrLong
	}
	var m api.DrillMachine
	if e := attempt(func() { m = parse(text) }); e != api.OK {
		return api.DrillMachine{}, e
	}
	if !isMachine(m) {
		return api.DrillMachine{}, api.ErrArg
	}
	return m, api.OK
}

// line returns a line of a word and numbers.
func line(word int, numbers ...int) string {
	text := words[word]
	for _, n := range numbers {
		text += " " + strconv.Itoa(n)
	}
	return text
}

// lastLine returns the line that ends a text, with the CHECK of the lines before it.
func lastLine(lines []string) string {
	total := 0
	for i, line := range lines {
		for place := range len(line) {
			total += int(line[place]) * (place + 1) * (i + 1)
		}
	}
	return words[endWord] + " " + strconv.Itoa(1000 + total%127)[1:]
}

// parse returns what a text says, a machine as defined or not; it gives up with a misprint.
func parse(text string) api.DrillMachine {
	lines := strings.Split(text, "\n")
	// behind the last line feed is nothing
	last := len(lines) - 2
	if last < 0 || lines[last+1] != "" || lines[last] != lastLine(lines[:last]) {
		panic(misprint{})
	}
	var m api.DrillMachine
	r := reader(lines[:last])
	head := r.numbers(machineWord, 2)
	if min(head[0], head[1]) < 0 {
		panic(misprint{})
	}
	for range head[0] {
		n := r.numbers(stopWord, 2)
		m.Stops = append(m.Stops, api.DrillPoint{X: n[0], Y: n[1]})
	}
	m.ChuckX, m.ChuckY = r.spans(chuckWord)
	m.WearX, m.WearY = r.spans(wearWord)
	for range head[1] {
		n := r.numbers(readingWord, 4)
		m.Readings = append(m.Readings, api.DrillReading{Blank: n[0], X: n[1], Y: n[2], Err: n[3]})
	}
	if len(r) > 0 {
		panic(misprint{})
	}
	return m
}

// spans returns the spans in X and in Y of the next line, which begins with a word.
func (r *reader) spans(word int) (api.Span, api.Span) {
	n := r.numbers(word, 4)
	return api.Span{Low: n[0], High: n[1]}, api.Span{Low: n[2], High: n[3]}
}

// numbers returns the numbers of the next line, which begins with a word; it gives up if they are not as many.
func (r *reader) numbers(word, many int) []int {
	if len(*r) == 0 {
		panic(misprint{})
	}
	found := strings.Split((*r)[0], " ")
	*r = (*r)[1:]
	if found[0] != words[word] || len(found) != many+1 {
		panic(misprint{})
	}
	var numbers []int
	for _, digits := range found[1:] {
		numbers = append(numbers, number(digits))
	}
	return numbers
}

// number returns the number that is written so; it gives up if none is.
func number(written string) int {
	digits, below := strings.CutPrefix(written, "-")
	if !within(len(digits), 1, 2) || digits[0] == '0' && written != "0" {
		panic(misprint{})
	}
	n := 0
	for _, digit := range digits {
		if digit < '0' || digit > '9' {
			panic(misprint{})
		}
		n = 10*n + int(digit-'0')
	}
	if below {
		return -n
	}
	return n
}
