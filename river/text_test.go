package river_test

import (
	"slices"
	"strings"
	"testing"

	"nacre/api"
	"nacre/river"
)

// text is the text of the chapter's book b.
const text = "book 4 2\nriver 1 4 10 12 14 16 8 9 20 22\nriver 0 10 12 14 9 10 15 15 10 12\nend 092\n"

// linesB returns the lines of the book b, but for the last one.
func linesB() []string {
	return []string{"book 4 2", "river 1 4 10 12 14 16 8 9 20 22", "river 0 10 12 14 9 10 15 15 10 12"}
}

// withLine returns the lines of the book b with another line at a place.
func withLine(place int, line string) []string {
	lines := linesB()
	lines[place] = line
	return lines
}

// P8.7: Print returns the text of a book, the chapter's example among others.
func TestPrint(t *testing.T) {
	most := append([]string{"book 6 3"}, slices.Repeat([]string{"river 3 63" + strings.Repeat(" 36 40", 6)}, 3)...)
	for name, x := range map[string]struct {
		b    api.RiverBook
		want string
	}{
		"b":         {bookB(), text},
		"the least": {bareBook(), sealed("book 1 1", "river 0 0 0 0")},
		"the most":  {fullBook(), sealed(most...)},
		"a Vary":    {changed(func(b *api.RiverBook) { b.Rivers[1].Vary = 3 }), sealed(withLine(2, "river 3 10 12 14 9 10 15 15 10 12")...)},
		"a Closed":  {changed(func(b *api.RiverBook) { b.Rivers[1].Closed = 0 }), sealed(withLine(2, "river 0 0 12 14 9 10 15 15 10 12")...)},
		"one river": {changed(func(b *api.RiverBook) { b.Rivers = b.Rivers[:1] }), sealed("book 4 1", linesB()[1])},
	} {
		if got, e := river.Print(x.b); e != api.OK || got != x.want {
			t.Errorf("%s: %q, error %d, want %q", name, got, e, x.want)
		}
	}
	for name, b := range badBooks() {
		got, e := river.Print(b)
		wantError(t, name, e, api.ErrArg, got)
	}
}

// P8.7 and P0.11: what was written is read as what was written.
func TestReadOfPrint(t *testing.T) {
	check := func(b api.RiverBook) {
		t.Helper()
		written, e := river.Print(b)
		if e != api.OK || len(written) > api.RiverText {
			t.Fatalf("%v: %q, error %d", b, written, e)
		}
		got, e := river.Read(written)
		if e != api.OK || !sameBook(got, b) {
			t.Fatalf("%q: %v, error %d", written, got, e)
		}
		if again, e := river.Print(got); e != api.OK || again != written {
			t.Fatalf("%q: written again %q, error %d", written, again, e)
		}
	}
	for _, b := range []api.RiverBook{bookB(), bareBook(), fullBook(), evenBook(), thinBook()} {
		check(b)
	}
	d := dice(13)
	for range 1000 {
		check(bookBy(&d, large()))
	}
}

// P8.7: a text in which one digit was changed to another one is not read.
func TestReadOfChangedDigits(t *testing.T) {
	d := dice(14)
	books := []api.RiverBook{bookB(), bareBook(), fullBook(), thinBook()}
	for range 20 {
		books = append(books, bookBy(&d, large()))
	}
	for _, b := range books {
		written, e := river.Print(b)
		if e != api.OK {
			t.Fatal(b, e)
		}
		for i := range len(written) {
			if written[i] < '0' || written[i] > '9' {
				continue
			}
			for digit := byte('0'); digit <= '9'; digit++ {
				if digit != written[i] {
					got, e := river.Read(written[:i] + string(rune(digit)) + written[i+1:])
					wantError(t, "a digit was changed", e, api.ErrText, got)
				}
			}
		}
	}
}

// P8.7: Read returns ErrText for lines that have not the form, though the CHECK is right.
func TestReadOfWrongLines(t *testing.T) {
	for name, x := range map[string]struct {
		line int
		text string
	}{
		"another word":         {1, "rivers 1 4 10 12 14 16 8 9 20 22"},
		"a capital":            {1, "River 1 4 10 12 14 16 8 9 20 22"},
		"no word":              {1, "1 4 10 12 14 16 8 9 20 22"},
		"an empty word":        {1, " 1 4 10 12 14 16 8 9 20 22"},
		"two blanks":           {1, "river 1  4 10 12 14 16 8 9 20 22"},
		"a blank in front":     {1, " river 1 4 10 12 14 16 8 9 20 22"},
		"a blank behind":       {1, "river 1 4 10 12 14 16 8 9 20 22 "},
		"a tab":                {1, "river\t1 4 10 12 14 16 8 9 20 22"},
		"a carriage return":    {1, "river 1 4 10 12 14 16 8 9 20 22\r"},
		"a number less":        {1, "river 1 4 10 12 14 16 8 9 20"},
		"a number more":        {1, "river 1 4 10 12 14 16 8 9 20 22 1"},
		"a year less":          {1, "river 1 4 10 12 14 16 8 9"},
		"a year more":          {1, "river 1 4 10 12 14 16 8 9 20 22 20 22"},
		"no years":             {1, "river 1 4"},
		"no numbers":           {1, "river"},
		"an empty line":        {1, ""},
		"a leading zero":       {1, "river 1 4 10 12 14 016 8 9 20 22"},
		"a leading zero first": {1, "river 01 4 10 12 14 16 8 9 20 22"},
		"two zeros":            {2, "river 00 10 12 14 9 10 15 15 10 12"},
		"three zeros":          {2, "river 000 10 12 14 9 10 15 15 10 12"},
		"a minus":              {1, "river -1 4 10 12 14 16 8 9 20 22"},
		"a minus and 0":        {2, "river -0 10 12 14 9 10 15 15 10 12"},
		"a plus":               {1, "river +1 4 10 12 14 16 8 9 20 22"},
		"4 digits":             {1, "river 1 4 10 12 14 16 8 9 20 1000"},
		"4 digits with a zero": {1, "river 1 4 10 12 14 16 8 9 20 0022"},
		"20 digits":            {1, "river 1 4 10 12 14 16 8 9 20 18446744073709551638"},
		"a letter":             {1, "river x 4 10 12 14 16 8 9 20 22"},
		"a letter behind":      {1, "river 1x 4 10 12 14 16 8 9 20 22"},
		"near the digits":      {1, "river : 4 10 12 14 16 8 9 20 22"},
		"near the digits too":  {1, "river / 4 10 12 14 16 8 9 20 22"},
		"another digit":        {1, "river \u0661 4 10 12 14 16 8 9 20 22"},
		"no text at all":       {1, "river \xff 4 10 12 14 16 8 9 20 22"},
		"a comma":              {1, "river 1,4 10 12 14 16 8 9 20 22"},
		"a book for a river":   {1, "book 1 4 10 12 14 16 8 9 20 22"},
		"an end for a river":   {1, "end 092"},
		"a form":               {1, "river VARY CLOSED LOW HIGH .. LOW HIGH"},
		"YEARS alone":          {0, "book 4"},
		"three for a book":     {0, "book 4 2 1"},
		"no number":            {0, "book"},
		"another book":         {0, "books 4 2"},
		"a river for a book":   {0, "river 4 2"},
		"3 RIVERS":             {0, "book 4 3"},
		"1 of RIVERS":          {0, "book 4 1"},
		"0 RIVERS":             {0, "book 4 0"},
		"999 RIVERS":           {0, "book 4 999"},
		"3 YEARS":              {0, "book 3 2"},
		"5 YEARS":              {0, "book 5 2"},
		"0 YEARS":              {0, "book 0 2"},
		"999 YEARS":            {0, "book 999 2"},
		"RIVERS of -2":         {0, "book 4 -2"},
		"YEARS with a zero":    {0, "book 04 2"},
		"a blank behind all":   {0, "book 4 2 "},
	} {
		got, e := river.Read(sealed(withLine(x.line, x.text)...))
		wantError(t, name, e, api.ErrText, got)
	}
}

// P8.7: Read returns ErrText for lines that are missing, doubled or turned, though the CHECK is right.
func TestReadOfOtherLines(t *testing.T) {
	l := linesB()
	for name, lines := range map[string][]string{
		"nothing":             nil,
		"an empty line":       {""},
		"no book":             l[1:],
		"two books":           append([]string{l[0]}, l...),
		"a book behind":       append(linesB(), l[0]),
		"a book behind all":   append(linesB(), l...),
		"a book for a river":  {l[0], l[0], l[1]},
		"a line in front":     append([]string{""}, l...),
		"a line behind":       append(linesB(), ""),
		"an end behind":       append(linesB(), "end 092"),
		"the book at the end": {l[1], l[2], l[0]},
		"a river less":        l[:2],
		"a river more":        append(linesB(), l[1]),
		"no rivers":           l[:1],
	} {
		got, e := river.Read(sealed(lines...))
		wantError(t, name, e, api.ErrText, got)
	}
}

// P8.7: Read returns ErrText for a wrong last line, and for what is behind it.
func TestReadOfWrongEnds(t *testing.T) {
	lines := strings.TrimSuffix(text, "end 092\n")
	for name, written := range map[string]string{
		"nothing":            "",
		"a line feed":        "\n",
		"two line feeds":     "\n\n",
		"only an end":        "end 000",
		"only an end's line": "end 000\n",
		"no end":             lines,
		"another CHECK":      lines + "end 093\n",
		"one less":           lines + "end 091\n",
		"131 more":           lines + "end 223\n",
		"two digits":         lines + "end 92\n",
		"four digits":        lines + "end 0092\n",
		"no CHECK":           lines + "end\n",
		"two of them":        lines + "end 092 092\n",
		"another word":       lines + "End 092\n",
		"a blank behind":     lines + "end 092 \n",
		"two blanks":         lines + "end  092\n",
		"no last line feed":  lines + "end 092",
		"a line feed more":   text + "\n",
		"a letter behind":    text + "x",
		"a text behind":      text + text,
		"a carriage return":  lines + "end 092\r\n",
		"carriage returns":   strings.ReplaceAll(text, "\n", "\r\n"),
		"a letter less":      text[1:],
		"200 bytes":          strings.Repeat("x", 200),
		"200 line feeds":     strings.Repeat("\n", 200),
		"no blank":           strings.Replace(text, "book 4", "book4", 1),
		"two lines swapped":  sealed(linesB()[0], linesB()[2], linesB()[1])[:len(lines)] + "end 092\n",
		"other line feeds":   strings.ReplaceAll(text, " ", "\n"),
	} {
		got, e := river.Read(written)
		wantError(t, name, e, api.ErrText, got)
	}
	for name, written := range map[string]string{
		"201 bytes":      strings.Repeat("x", 201),
		"201 line feeds": strings.Repeat("\n", 201),
		"many bytes":     strings.Repeat(text, 100000),
	} {
		got, e := river.Read(written)
		wantError(t, name, e, api.ErrLong, got)
	}
}

// P8.7: Read returns ErrArg for the text of a book that is not as defined, with any number of years and rivers.
func TestReadOfBadBooks(t *testing.T) {
	l := linesB()
	for name, lines := range map[string][]string{
		"a Vary of 4":      withLine(1, "river 4 4 10 12 14 16 8 9 20 22"),
		"a Vary of 999":    withLine(1, "river 999 4 10 12 14 16 8 9 20 22"),
		"a Closed of 16":   withLine(1, "river 1 16 10 12 14 16 8 9 20 22"),
		"a Grow turned":    withLine(1, "river 1 4 12 10 14 16 8 9 20 22"),
		"a Grow too wide":  withLine(1, "river 1 4 10 15 14 16 8 9 20 22"),
		"a Grow to 41":     withLine(1, "river 1 4 10 12 14 16 8 9 40 41"),
		"a Grow of 999":    withLine(2, "river 0 10 12 14 9 10 15 15 999 999"),
		"no rivers":        {"book 4 0"},
		"neither of them":  {"book 0 0"},
		"no years":         {"book 0 1", "river 1 0"},
		"four rivers":      {"book 4 4", l[1], l[1], l[1], l[1]},
		"ten rivers":       append([]string{"book 1 10"}, slices.Repeat([]string{"river 1 0 3 4"}, 10)...),
		"seven years":      {"book 7 1", "river 1 0" + strings.Repeat(" 3 4", 7)},
		"40 years":         {"book 40 1", "river 1 0" + strings.Repeat(" 3 4", 40)},
		"999 years, alone": {"book 999 0"},
	} {
		got, e := river.Read(sealed(lines...))
		wantError(t, name, e, api.ErrArg, got)
	}
	// 200 bytes are not too long
	long := sealed("book 43 1", "river 1 0"+strings.Repeat(" 3 4", 43))
	got, e := river.Read(long)
	if len(long) != api.RiverText {
		t.Errorf("%d bytes", len(long))
	}
	wantError(t, "200 bytes", e, api.ErrArg, got)
	got, e = river.Read(sealed("book 43 1", "river 1 0 13 4"+strings.Repeat(" 3 4", 42)))
	wantError(t, "201 bytes", e, api.ErrLong, got)
}

// P8.7: Read has the error of the text before that of the book.
func TestReadOfBoth(t *testing.T) {
	lines := withLine(1, "river 4 4 10 12 14 16 8 9 20 22")
	lines[2] = "river 0 10 12 14 9 10 15 15 10"
	got, e := river.Read(sealed(lines...))
	wantError(t, "a wrong line of a book that is not as defined", e, api.ErrText, got)
}
