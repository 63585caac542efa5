package shift

import (
	"slices"
	"strconv"
	"strings"

	"nacre/api"
)

// The words with which lines begin, numbered as in forms.
const (
	houseWord = iota
	roomWord
	fanWord
	openWord
	handWord
	endWord
)

// forms is what lines look like: each # is a number. A line open has one for each hour, and the line end has its CHECK.
var forms = [...]string{"house #", "room # # make # wait # start #", "fan # #", "open", "hand # #", "end"}

// unread is the lines of a sheet that were not read yet.
type unread []string

// Print returns the sheet of a house.
func Print(h api.ShiftHouse) (string, api.Errno) {
	if !isHouse(h) {
		return "", api.ErrArg
	}
	lines := []string{write(houseWord, h.Hours)}
	for _, r := range h.Rooms {
		lines = append(lines, write(roomWord, r.Dust.Low, r.Dust.High, r.Make, r.Wait, r.Start))
	}
	for _, f := range h.Fans {
		lines = append(lines, write(fanWord, f.Room, f.Draws))
	}
	lines = append(lines, write(openWord, h.Open...))
	for _, x := range h.Hands {
		lines = append(lines, write(handWord, x.Limit, x.Most))
	}
	lines = append(lines, lastLine(lines))
	return strings.Join(lines, "\n") + "\n", api.OK
}

// Read returns the house of a sheet.
func Read(text string) (api.ShiftHouse, api.Errno) {
	if len(text) > api.ShiftText {
		return api.ShiftHouse{}, api.ErrLong
	}
	var h api.ShiftHouse
	if e := attempt(func() { h = parse(text) }); e != api.OK {
		return api.ShiftHouse{}, e
	}
	if !isHouse(h) {
		return api.ShiftHouse{}, api.ErrArg
	}
	return h, api.OK
}

// form returns what the words of a line with so many numbers look like.
func form(word, numbers int) []string {
	words := strings.Split(forms[word], " ")
	if word == openWord {
		words = append(words, slices.Repeat([]string{"#"}, numbers)...)
	}
	return words
}

// write returns a line as it is written.
func write(word int, numbers ...int) string {
	parts := form(word, len(numbers))
	for i, part := range parts {
		if part == "#" {
			parts[i] = strconv.Itoa(numbers[0])
			numbers = numbers[1:]
		}
	}
	return strings.Join(parts, " ")
}

// lastLine returns the line that ends a sheet, with the CHECK of the lines before it.
func lastLine(lines []string) string {
	total := 0
	for _, line := range lines {
		for place := range len(line) {
			total += int(line[place]) * (place + 1)
		}
	}
	return forms[endWord] + " " + strconv.Itoa(1000 + total%107)[1:]
}

// parse returns the house of a sheet, one as defined or not; it gives up if a text is none.
func parse(text string) api.ShiftHouse {
	lines := strings.Split(text, "\n")
	// behind the last line feed is nothing
	last := len(lines) - 2
	demand(last >= 0 && lines[last+1] == "" && lines[last] == lastLine(lines[:last]))
	var h api.ShiftHouse
	left := unread(lines[:last])
	h.Hours = left.next(houseWord)[0]
	for left.isAt(roomWord) {
		n := left.next(roomWord)
		h.Rooms = append(h.Rooms, api.ShiftRoom{Dust: api.Span{Low: n[0], High: n[1]}, Make: n[2], Wait: n[3], Start: n[4]})
	}
	for left.isAt(fanWord) {
		n := left.next(fanWord)
		h.Fans = append(h.Fans, api.ShiftFan{Room: n[0], Draws: n[1]})
	}
	h.Open = left.next(openWord)
	for left.isAt(handWord) {
		n := left.next(handWord)
		h.Hands = append(h.Hands, api.ShiftHand{Limit: n[0], Most: n[1]})
	}
	demand(len(left) == 0)
	return h
}

// isAt reports whether the next line begins with a word.
func (u unread) isAt(word int) bool {
	return len(u) > 0 && strings.Split(u[0], " ")[0] == form(word, 0)[0]
}

// next returns the numbers of the next line; it gives up if that is none that begins with a word.
func (u *unread) next(word int) []int {
	demand(len(*u) > 0)
	parts := strings.Split((*u)[0], " ")
	*u = (*u)[1:]
	wanted := form(word, len(parts)-1)
	demand(len(parts) == len(wanted))
	var numbers []int
	for i, part := range parts {
		if wanted[i] == "#" {
			numbers = append(numbers, number(part))
		} else {
			demand(part == wanted[i])
		}
	}
	return numbers
}

// number returns the number that is written so; it gives up if none is.
func number(digits string) int {
	demand(within(len(digits), 1, 4) && (digits[0] != '0' || digits == "0"))
	n := 0
	for _, digit := range digits {
		demand('0' <= digit && digit <= '9')
		n = 10*n + int(digit-'0')
	}
	return n
}

// demand gives up if a text is not as it must be.
func demand(is bool) {
	if !is {
		panic(misprint{})
	}
}
