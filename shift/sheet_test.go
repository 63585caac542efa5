package shift_test

import (
	"slices"
	"strings"
	"testing"

	"nacre/api"
	"nacre/shift"
)

const text = "house 1\nroom 0 0 make 0 wait 0 start 0\nopen 0\nhand 0 0\nend 043\n"

// linesH returns the lines of the house h, but for the last one.
func linesH() []string {
	return []string{
		"house 3", "room 4 6 make 10 wait 2 start 0", "room 1 2 make 5 wait 1 start 3", "fan 0 4", "fan 1 1", "open 3 3 1",
		"hand 20 2", "hand 20 3", "hand 20 2",
	}
}

// withLine returns the lines of the house h with another line at a place.
func withLine(place int, line string) []string {
	lines := linesH()
	lines[place] = line
	return lines
}

// P5.8: Print returns the sheet of a house; the chapter's example among others.
func TestPrint(t *testing.T) {
	if got, e := shift.Print(bareHouse()); e != api.OK || got != text {
		t.Errorf("%q, error %d", got, e)
	}
	if got, e := shift.Print(houseH()); e != api.OK || got != sealed(linesH()...) {
		t.Errorf("%q, error %d", got, e)
	}
	for name, h := range badHouses() {
		got, e := shift.Print(h)
		wantError(t, name, e, api.ErrArg, got)
	}
}

// P5.8 and P0.11: what was written is read as what was written.
func TestReadOfPrint(t *testing.T) {
	check := func(h api.ShiftHouse) {
		t.Helper()
		written, e := shift.Print(h)
		if e != api.OK || len(written) > api.ShiftText {
			t.Fatalf("%v: %q, error %d", h, written, e)
		}
		got, e := shift.Read(written)
		if e != api.OK || !sameHouse(got, h) {
			t.Fatalf("%q: %v, error %d", written, got, e)
		}
		if again, e := shift.Print(got); e != api.OK || again != written {
			t.Fatalf("%q: written again %q, error %d", written, again, e)
		}
	}
	check(bareHouse())
	check(houseH())
	check(fullHouse())
	d := dice(13)
	for range 500 {
		check(houseBy(&d, large()))
	}
}

// P5.8: a sheet in which one digit was changed to another one is not read.
func TestReadOfChangedDigits(t *testing.T) {
	for _, h := range []api.ShiftHouse{bareHouse(), houseH(), fullHouse()} {
		written, e := shift.Print(h)
		if e != api.OK {
			t.Fatal(h, e)
		}
		for i := range len(written) {
			if written[i] < '0' || written[i] > '9' {
				continue
			}
			for digit := byte('0'); digit <= '9'; digit++ {
				if digit != written[i] {
					got, e := shift.Read(written[:i] + string(rune(digit)) + written[i+1:])
					wantError(t, "a digit was changed", e, api.ErrText, got)
				}
			}
		}
	}
}

// P5.8: Read returns ErrText for lines that have not the form, though the CHECK is right.
func TestReadOfWrongLines(t *testing.T) {
	for name, x := range map[string]struct {
		line int
		text string
	}{
		"another word":            {3, "fans 0 4"},
		"a capital":               {3, "Fan 0 4"},
		"no word":                 {3, "0 4"},
		"an empty word":           {3, " 0 4"},
		"two blanks":              {3, "fan 0  4"},
		"a blank in front":        {3, " fan 0 4"},
		"a blank behind":          {3, "fan 0 4 "},
		"a tab":                   {3, "fan\t0 4"},
		"a carriage return":       {3, "fan 0 4\r"},
		"a number less":           {3, "fan 0"},
		"a number more":           {3, "fan 0 4 4"},
		"no numbers":              {3, "fan"},
		"an empty line":           {3, ""},
		"a leading zero":          {3, "fan 0 04"},
		"two zeros":               {3, "fan 00 4"},
		"four zeros":              {3, "fan 0000 4"},
		"a minus":                 {3, "fan 0 -4"},
		"a plus":                  {3, "fan 0 +4"},
		"a minus and 0":           {3, "fan -0 4"},
		"5 digits":                {3, "fan 0 10000"},
		"5 digits with a zero":    {3, "fan 0 00004"},
		"20 digits":               {3, "fan 18446744073709551616 4"},
		"a letter":                {3, "fan x 4"},
		"a letter behind":         {3, "fan 0 4x"},
		"near the digits":         {3, "fan 0 4:"},
		"near the digits too":     {3, "fan 0 4/"},
		"a digit of another kind": {3, "fan 0 \u0664"},
		"a byte of no kind":       {3, "fan 0 \xff"},
		"the mark of the forms":   {3, "fan # #"},
		"a fraction":              {3, "fan 0 4.0"},
		"an end within":           {3, "end 0 4"},
		"a head without a number": {0, "house"},
		"a head of two numbers":   {0, "house 3 3"},
		"another head":            {0, "houses 3"},
		"no head, but a room":     {0, "room 4 6 make 10 wait 2 start 0"},
		"a room of one number":    {1, "room 4 make 10 wait 2 start 0"},
		"a room of 3 numbers":     {1, "room 4 6 6 make 10 wait 2 start 0"},
		"a room without words":    {1, "room 4 6 10 2 0"},
		"a room without make":     {1, "room 4 6 10 wait 2 start 0"},
		"a room without wait":     {1, "room 4 6 make 10 2 start 0"},
		"a room without start":    {1, "room 4 6 make 10 wait 2"},
		"a room with no start":    {1, "room 4 6 make 10 wait 2 start"},
		"words in other order":    {1, "room 4 6 wait 2 make 10 start 0"},
		"another make":            {1, "room 4 6 made 10 wait 2 start 0"},
		"another wait":            {1, "room 4 6 make 10 waits 2 start 0"},
		"another start":           {1, "room 4 6 make 10 wait 2 begin 0"},
		"a word for a number":     {1, "room 4 make make 10 wait 2 start 0"},
		"a number for a word":     {1, "room 4 6 7 10 wait 2 start 0"},
		"another open":            {5, "opens 3 3 1"},
		"no open":                 {5, "hand 20 2"},
		"open with a blank":       {5, "open "},
		"open with a blank more":  {5, "open 3 3 1 "},
		"open with a comma":       {5, "open 3, 3 1"},
		"open with a zero more":   {5, "open 3 03 1"},
		"a hand of one number":    {7, "hand 20"},
		"a hand of 3 numbers":     {7, "hand 20 3 3"},
		"a hand that is a house":  {7, "house 20"},
		"a hand that is a fan":    {7, "fan 0 3"},
	} {
		got, e := shift.Read(sealed(withLine(x.line, x.text)...))
		wantError(t, name, e, api.ErrText, got)
	}
}

// P5.8: Read returns ErrText for lines that are missing, too many or in no order, though the CHECK is right.
func TestReadOfWrongOrders(t *testing.T) {
	l := linesH()
	for name, lines := range map[string][]string{
		"no lines":               {},
		"an empty line":          {""},
		"no head":                l[1:],
		"a head alone":           l[:1],
		"no open":                slices.Concat(l[:5], l[6:]),
		"nothing from open on":   l[:5],
		"two heads":              slices.Concat(l[:1], l),
		"a head at the end":      slices.Concat(l[1:], l[:1]),
		"a room after fans":      slices.Concat(l[:2], l[3:5], l[2:3], l[5:]),
		"a room after open":      slices.Concat(l[:2], l[3:6], l[2:3], l[6:]),
		"a fan before rooms":     slices.Concat(l[:1], l[3:4], l[1:3], l[4:]),
		"a fan after open":       slices.Concat(l[:4], l[5:6], l[4:5], l[6:]),
		"a fan at the end":       slices.Concat(l[:4], l[5:], l[4:5]),
		"open at the end":        slices.Concat(l[:5], l[6:], l[5:6]),
		"open before fans":       slices.Concat(l[:3], l[5:6], l[3:5], l[6:]),
		"two opens":              slices.Concat(l[:6], l[5:]),
		"a hand before open":     slices.Concat(l[:5], l[6:7], l[5:6], l[7:]),
		"a hand before rooms":    slices.Concat(l[:1], l[6:7], l[1:6], l[7:]),
		"an empty line in front": slices.Concat([]string{""}, l),
		"an empty line behind":   slices.Concat(l, []string{""}),
		"an empty line within":   slices.Concat(l[:3], []string{""}, l[3:]),
		"a second house":         slices.Concat(l, l),
		"an end, and another":    slices.Concat(l, []string{"end 000"}),
	} {
		got, e := shift.Read(sealed(lines...))
		wantError(t, name, e, api.ErrText, got)
	}
}

// P5.8: Read returns ErrText for another end or CHECK, and ErrLong for more than 500 bytes, before all else.
func TestReadOfWrongEnds(t *testing.T) {
	for name, written := range map[string]string{
		"nothing":              "",
		"a line feed":          "\n",
		"line feeds":           "\n\n\n",
		"no end":               strings.TrimSuffix(text, "end 043\n"),
		"an end alone":         "end 000\n",
		"no line feed":         strings.TrimSuffix(text, "\n"),
		"a line feed more":     text + "\n",
		"something behind":     text + "x",
		"a line behind":        text + "hand 0 0\n",
		"a byte less":          text[1:],
		"another CHECK":        strings.Replace(text, "043", "044", 1),
		"a CHECK above 107":    strings.Replace(text, "043", "150", 1),
		"a CHECK of 2 digits":  strings.Replace(text, "043", "43", 1),
		"a CHECK of 4 digits":  strings.Replace(text, "043", "0043", 1),
		"no CHECK":             strings.Replace(text, " 043", "", 1),
		"two blanks before it": strings.Replace(text, " 043", "  043", 1),
		"another end":          strings.Replace(text, "end", "End", 1),
		"carriage returns":     strings.ReplaceAll(text, "\n", "\r\n"),
		"500 bytes":            strings.Repeat("x", 500),
		"500 line feeds":       strings.Repeat("\n", 500),
	} {
		got, e := shift.Read(written)
		wantError(t, name, e, api.ErrText, got)
	}
	for name, written := range map[string]string{
		"501 bytes":    strings.Repeat("x", 501),
		"a long sheet": sealed(slices.Concat(linesH(), slices.Repeat([]string{"hand 20 2"}, 40))...),
		"much":         strings.Repeat(text, 100000),
	} {
		got, e := shift.Read(written)
		wantError(t, name, e, api.ErrLong, got)
	}
}

// P5.8: Read returns ErrArg for the sheet of a house that is not as defined, with any number of lines and sets.
func TestReadOfBadHouses(t *testing.T) {
	l := linesH()
	for name, lines := range map[string][]string{
		"hours of 0":           withLine(0, "house 0"),
		"hours of 2":           withLine(0, "house 2"),
		"hours of 4":           withLine(0, "house 4"),
		"hours of 9999":        withLine(0, "house 9999"),
		"no sets":              withLine(5, "open"),
		"no hours, no sets":    {"house 0", "room 0 0 make 0 wait 0 start 0", "open", "hand 0 0"},
		"5 hours, 5 sets":      {"house 5", "room 0 0 make 0 wait 0 start 0", "open 0 0 0 0 0", "hand 0 0"},
		"2 sets":               withLine(5, "open 3 3"),
		"4 sets":               withLine(5, "open 3 3 1 1"),
		"a set of 4":           withLine(5, "open 3 3 4"),
		"a set of 9999":        withLine(5, "open 9999 3 1"),
		"nothing but open":     {"house 1", "open 0"},
		"no rooms":             slices.Concat(l[:1], []string{"open 0 0 0"}, l[6:]),
		"no hands":             l[:6],
		"4 rooms":              slices.Concat(l[:3], l[1:3], l[3:]),
		"5 fans":               slices.Concat(l[:3], slices.Repeat(l[3:4], 5), l[5:]),
		"5 hands":              slices.Concat(l[:6], slices.Repeat(l[6:7], 5)),
		"dust turned":          withLine(1, "room 6 4 make 10 wait 2 start 0"),
		"dust to 51":           withLine(1, "room 4 51 make 10 wait 2 start 0"),
		"a Make of 1001":       withLine(2, "room 1 2 make 1001 wait 1 start 3"),
		"a Wait of 5":          withLine(2, "room 1 2 make 5 wait 5 start 3"),
		"a Start of 51":        withLine(2, "room 1 2 make 5 wait 1 start 51"),
		"a fan in the room 2":  withLine(4, "fan 2 1"),
		"a fan that draws 51":  withLine(4, "fan 1 51"),
		"a limit of 2001":      withLine(8, "hand 2001 2"),
		"a Most of 5":          withLine(8, "hand 20 5"),
		"fans without a room":  {"house 1", "fan 0 0", "open 0", "hand 0 0"},
		"a last hand too much": slices.Concat(l, l[6:8]),
	} {
		got, e := shift.Read(sealed(lines...))
		wantError(t, name, e, api.ErrArg, got)
	}
	// 500 bytes are not too long
	lines := slices.Concat(l[:6], slices.Repeat([]string{"hand 100 2"}, 35), []string{"hand 1 2"})
	if n := len(sealed(lines...)); n != 500 {
		t.Fatal(n)
	}
	got, e := shift.Read(sealed(lines...))
	wantError(t, "500 bytes", e, api.ErrArg, got)
}

// P5.8: Read has the error of the text before that of the house.
func TestReadOfBoth(t *testing.T) {
	lines := withLine(1, "room 6 4 make 10 wait 2 start 0")
	lines[8] = "hand 20"
	got, e := shift.Read(sealed(lines...))
	wantError(t, "a wrong line of a house that is not as defined", e, api.ErrText, got)
}
