package drum

import (
	"slices"
	"strconv"
	"strings"

	"nacre/api"
)

// What a line is about, numbered as in forms.
const (
	drumLine = iota
	acidLine
	addLine
	stripLine
	batchLine
	endLine
)

// forms is what lines look like: each # is a number. A line add has more of them, and the line end has its CHECK.
var forms = [...]string{"drum # known #", "acid # # fall # #", "add", "strip # # #", "batch # # # # # #", "end"}

// reader is the lines of a slip that were not read yet.
type reader []string

// Print returns the slip of a drum.
func Print(d api.DrumDrum) (string, api.Errno) {
	if !isDrum(d) {
		return "", api.ErrArg
	}
	lines := []string{line(drumLine, d.Hours, d.Known)}
	for _, a := range d.Acids {
		lines = append(lines, line(acidLine, a.Strength.Low, a.Strength.High, a.Fall.Low, a.Fall.High))
	}
	lines = append(lines, line(addLine, d.Adds...))
	for _, s := range d.Strips {
		lines = append(lines, line(stripLine, s.Hour, s.Seen, s.Off))
	}
	for _, b := range d.Batches {
		lines = append(lines, line(batchLine, b.Rough, b.Goal, b.Thick, b.Least, b.Polish, b.Eat))
	}
	lines = append(lines, lastLine(lines))
	return strings.Join(lines, "\n") + "\n", api.OK
}

// Read returns the drum of a slip.
func Read(text string) (api.DrumDrum, api.Errno) {
	if len(text) > api.DrumText {
		return api.DrumDrum{}, api.ErrLong
	}
	var d api.DrumDrum
	if e := attempt(func() { d = parse(text) }); e != api.OK {
		return api.DrumDrum{}, e
	}
	if !isDrum(d) {
		return api.DrumDrum{}, api.ErrArg
	}
	return d, api.OK
}

// form returns what the words of a line with so many numbers look like.
func form(about, numbers int) []string {
	words := strings.Split(forms[about], " ")
	if about == addLine {
		words = append(words, slices.Repeat([]string{"#"}, numbers)...)
	}
	return words
}

// line returns a line with numbers.
func line(about int, numbers ...int) string {
	words := form(about, len(numbers))
	for i, word := range words {
		if word == "#" {
			words[i] = strconv.Itoa(numbers[0])
			numbers = numbers[1:]
		}
	}
	return strings.Join(words, " ")
}

// lastLine returns the line that ends a slip, with the CHECK of the lines before it.
func lastLine(lines []string) string {
	total := 0
	for _, line := range lines {
		for place := range len(line) {
			total += int(line[place]) * (place + 1)
		}
	}
	return forms[endLine] + " " + strconv.Itoa(1000 + total%103)[1:]
}

// parse returns the drum of a slip, one as defined or not; it gives up if a text is none.
func parse(text string) api.DrumDrum {
	lines := strings.Split(text, "\n")
	// behind the last line feed is nothing
	last := len(lines) - 2
	if last < 0 || lines[last+1] != "" || lines[last] != lastLine(lines[:last]) {
		panic(misprint{})
	}
	var d api.DrumDrum
	r := reader(lines[:last])
	head := r.next(drumLine)
	d.Hours, d.Known = head[0], head[1]
	for r.isAt(acidLine) {
		n := r.next(acidLine)
		d.Acids = append(d.Acids, api.DrumAcid{Strength: api.Span{Low: n[0], High: n[1]}, Fall: api.Span{Low: n[2], High: n[3]}})
	}
	d.Adds = r.next(addLine)
	for r.isAt(stripLine) {
		n := r.next(stripLine)
		d.Strips = append(d.Strips, api.DrumStrip{Hour: n[0], Seen: n[1], Off: n[2]})
	}
	for r.isAt(batchLine) {
		n := r.next(batchLine)
		d.Batches = append(d.Batches, api.DrumBatch{Rough: n[0], Goal: n[1], Thick: n[2], Least: n[3], Polish: n[4], Eat: n[5]})
	}
	if len(r) > 0 {
		panic(misprint{})
	}
	return d
}

// isAt reports whether the next line begins as one about something.
func (r reader) isAt(about int) bool {
	return len(r) > 0 && strings.Split(r[0], " ")[0] == form(about, 0)[0]
}

// next returns the numbers of the next line; it gives up if that is not one about something.
func (r *reader) next(about int) []int {
	if len(*r) == 0 {
		panic(misprint{})
	}
	words := strings.Split((*r)[0], " ")
	*r = (*r)[1:]
	wanted := form(about, len(words)-1)
	if len(words) != len(wanted) {
		panic(misprint{})
	}
	var numbers []int
	for i, word := range words {
		if wanted[i] == "#" {
			numbers = append(numbers, number(word))
		} else if word != wanted[i] {
			panic(misprint{})
		}
	}
	return numbers
}

// number returns the number that is written so; it gives up if none is.
func number(digits string) int {
	if !within(len(digits), 1, 4) || digits[0] == '0' && digits != "0" {
		panic(misprint{})
	}
	n := 0
	for _, digit := range digits {
		if digit < '0' || digit > '9' {
			panic(misprint{})
		}
		n = 10*n + int(digit-'0')
	}
	return n
}
