package shell

import (
	"strconv"
	"strings"

	"nacre/api"
)

// The cells of a sheet, numbered as their marks are.
const (
	dot = iota
	hash
	ring
)

// marks has a byte for each cell of a sheet, by its number.
const marks = ".#o"

// The forms of the lines of a sheet; a 0 stands for a number.
const (
	headForm  = "shell 0 0 taper 0 hidden 0"
	gaugeForm = "gauge 0 0 0 0"
	rightForm = "crack 0 0 right"
	downForm  = "crack 0 0 down"
	probeForm = "probe 0 0"
	endForm   = "end "
)

// Print returns the sheet of a map.
func Print(m api.ShellMap) (string, api.Errno) {
	if Check(m) != api.OK {
		return "", api.ErrArg
	}
	lines := []string{fill(headForm, len(m.Cells), len(m.Cells[0]), m.Taper, m.Hidden)}
	for _, cells := range m.Cells {
		lines = append(lines, draw(cells))
	}
	for _, g := range m.Gauges {
		lines = append(lines, fill(gaugeForm, g.Row, g.Column, g.Seen, g.Off))
	}
	for _, c := range m.Cracks {
		form := rightForm
		if c.Down {
			form = downForm
		}
		lines = append(lines, fill(form, c.Row, c.Column))
	}
	for _, p := range m.Probed {
		lines = append(lines, fill(probeForm, p.Row, p.Column))
	}
	lines = append(lines, endForm+check(lines))
	return strings.Join(lines, "\n") + "\n", api.OK
}

// Read returns the map of a sheet.
func Read(text string) (api.ShellMap, api.Errno) {
	if len(text) > api.ShellText {
		return api.ShellMap{}, api.ErrLong
	}
	var m api.ShellMap
	if e := attempt(func() { m = parse(text) }); e != api.OK {
		return api.ShellMap{}, e
	}
	if Check(m) != api.OK {
		return api.ShellMap{}, api.ErrArg
	}
	return m, api.OK
}

// kinds returns the kind of each cell of a sheet, by its number.
func kinds() [len(marks)]api.ShellCell {
	return [len(marks)]api.ShellCell{dot: api.ShellOutside, hash: api.ShellSolid, ring: api.ShellWorm}
}

// draw returns the line of a row of cells.
func draw(cells []api.ShellCell) string {
	var line []byte
	for _, cell := range cells {
		for i, kind := range kinds() {
			if kind == cell {
				line = append(line, marks[i])
			}
		}
	}
	return string(line)
}

// fill returns a form with numbers in it.
func fill(form string, numbers ...int) string {
	words := strings.Split(form, " ")
	for i, word := range words {
		if word == "0" {
			words[i] = strconv.Itoa(numbers[0])
			numbers = numbers[1:]
		}
	}
	return strings.Join(words, " ")
}

// check returns the CHECK of the lines before it.
func check(lines []string) string {
	total := 0
	for _, line := range lines {
		for i := range len(line) {
			total += int(line[i]) * (i + 1)
		}
	}
	digits := strconv.Itoa(total % 101)
	return strings.Repeat("0", 3-len(digits)) + digits
}

// parse returns what a sheet says, a map or not; it gives up with a misprint.
func parse(text string) api.ShellMap {
	lines := strings.Split(text, "\n")
	// behind the last line feed is nothing
	last := len(lines) - 2
	if last < 1 || lines[last+1] != "" || lines[last] != endForm+check(lines[:last]) {
		panic(misprint{})
	}
	head, ok := match(headForm, lines[0])
	if !ok {
		panic(misprint{})
	}
	rows, columns := head[0], head[1]
	rest := lines[1:last]
	if rows > len(rest) || rows == 0 && columns > 0 {
		panic(misprint{})
	}
	m := api.ShellMap{Taper: head[2], Hidden: head[3]}
	for _, line := range rest[:rows] {
		m.Cells = append(m.Cells, parseRow(line, columns))
	}
	rest = rest[rows:]
	m.Gauges, rest = leading(rest, parseGauge)
	m.Cracks, rest = leading(rest, parseCrack)
	m.Probed, rest = leading(rest, parseProbe)
	if len(rest) > 0 {
		panic(misprint{})
	}
	return m
}

// parseRow returns the cells of a line; it gives up with a misprint.
func parseRow(line string, columns int) []api.ShellCell {
	if len(line) != columns {
		panic(misprint{})
	}
	var cells []api.ShellCell
	for i := range columns {
		number := strings.IndexByte(marks, line[i])
		if number < 0 {
			panic(misprint{})
		}
		cells = append(cells, kinds()[number])
	}
	return cells
}

// leading returns what the first lines say, as far as they can be read, and the lines after them.
func leading[T any](lines []string, read func(string) (T, bool)) ([]T, []string) {
	var found []T
	for i, line := range lines {
		x, ok := read(line)
		if !ok {
			return found, lines[i:]
		}
		found = append(found, x)
	}
	return found, nil
}

// parseGauge returns the gauge of a line.
func parseGauge(line string) (api.ShellGauge, bool) {
	n, ok := match(gaugeForm, line)
	if !ok {
		return api.ShellGauge{}, false
	}
	return api.ShellGauge{Row: n[0], Column: n[1], Seen: n[2], Off: n[3]}, true
}

// parseCrack returns the crack of a line.
func parseCrack(line string) (api.ShellCrack, bool) {
	if n, ok := match(downForm, line); ok {
		return api.ShellCrack{Row: n[0], Column: n[1], Down: true}, true
	}
	if n, ok := match(rightForm, line); ok {
		return api.ShellCrack{Row: n[0], Column: n[1]}, true
	}
	return api.ShellCrack{}, false
}

// parseProbe returns the probed place of a line.
func parseProbe(line string) (api.ShellPlace, bool) {
	n, ok := match(probeForm, line)
	if !ok {
		return api.ShellPlace{}, false
	}
	return api.ShellPlace{Row: n[0], Column: n[1]}, true
}

// match returns the numbers of a line that has a form.
func match(form, line string) ([]int, bool) {
	wanted, words := strings.Split(form, " "), strings.Split(line, " ")
	if len(words) != len(wanted) {
		return nil, false
	}
	var numbers []int
	for i, word := range words {
		if wanted[i] != "0" {
			if word != wanted[i] {
				return nil, false
			}
			continue
		}
		n, ok := number(word)
		if !ok {
			return nil, false
		}
		numbers = append(numbers, n)
	}
	return numbers, true
}

// number returns the number of a word of 1 to 3 digits without leading zeros.
func number(word string) (int, bool) {
	if !within(len(word), 1, 3) || len(word) > 1 && word[0] == '0' {
		return 0, false
	}
	n := 0
	for _, digit := range word {
		if digit < '0' || digit > '9' {
			return 0, false
		}
		n = 10*n + int(digit-'0')
	}
	return n, true
}
