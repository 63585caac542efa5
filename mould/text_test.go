package mould_test

import (
	"slices"
	"strings"
	"testing"

	"nacre/api"
	"nacre/mould"
)

// text is the text of the chapter's book.
const text = "book 0 0\nmould 0 0 0\nloan 0 0 0 from 0 0\nend 041\n"

// linesB returns the lines of the book b, but for the last one.
func linesB() []string {
	return []string{
		"book 1 0",
		"mould 0 0 0", "mark 0 1 1", "mark 1 4 8", "loan 0 5 6 from 1 2", "loan 1 3 5 from 5 5",
		"mould 1 2 5", "mark 2 3 4", "loan 2 4 8 from 3 4",
	}
}

// withLine returns the lines of the book b with another line at a place.
func withLine(place int, line string) []string {
	lines := linesB()
	lines[place] = line
	return lines
}

// P7.8: Print returns the text of a book, also of one that is not possible; the chapter's example among others.
func TestPrint(t *testing.T) {
	var most []string
	for n := range 5 {
		line, spots := "mould 1 31 36", []string{"0", "1", "2", "3"}
		if n == 0 {
			line, spots = "mould 0 0 0", []string{"4", "5", "6", "7"}
			most = append(most, "book 2 2")
		}
		most = append(most, line)
		for _, spot := range spots {
			most = append(most, "mark "+spot+" 1 36")
		}
		most = append(most, slices.Repeat([]string{"loan " + string(rune('5'-n)) + " 0 12 from 0 99"}, 3)...)
	}
	for name, x := range map[string]struct {
		b    api.MouldBook
		want string
	}{
		"the least":    {bareBook(), text},
		"b":            {bookB(), sealed(linesB()...)},
		"c":            {bookC(), sealed(withLine(0, "book 0 0")...)},
		"not possible": {torn(), sealed(withLine(5, "loan 1 3 5 from 0 0")...)},
		"the most":     {fullBook(), sealed(most...)},
		"a Ghost":      {changed(func(b *api.MouldBook) { b.Ghost = 2 }), sealed(withLine(0, "book 1 2")...)},
	} {
		if got, e := mould.Print(x.b); e != api.OK || got != x.want {
			t.Errorf("%s: %q, error %d, want %q", name, got, e, x.want)
		}
	}
	for name, b := range badBooks() {
		got, e := mould.Print(b)
		wantError(t, name, e, api.ErrArg, got)
	}
}

// P7.8 and P0.11: what was written is read as what was written.
func TestReadOfPrint(t *testing.T) {
	check := func(b api.MouldBook) {
		t.Helper()
		written, e := mould.Print(b)
		if e != api.OK || len(written) > api.MouldText {
			t.Fatalf("%v: %q, error %d", b, written, e)
		}
		got, e := mould.Read(written)
		if e != api.OK || !sameBook(got, b) {
			t.Fatalf("%q: %v, error %d", written, got, e)
		}
		if again, e := mould.Print(got); e != api.OK || again != written {
			t.Fatalf("%q: written again %q, error %d", written, again, e)
		}
	}
	for _, b := range []api.MouldBook{bookB(), bookC(), torn(), bareBook(), fullBook(), deepBook()} {
		check(b)
	}
	d := dice(15)
	for range 1000 {
		b := bookBy(&d, large())
		if d.upTo(3) == 0 {
			b.Moulds[0].Loans = append(b.Moulds[0].Loans[:1], api.MouldLoan{From: span(d.upTo(9), 9)})
		}
		check(b)
	}
}

// P7.8: a text in which one digit was changed to another one is not read.
func TestReadOfChangedDigits(t *testing.T) {
	for _, b := range []api.MouldBook{bookB(), torn(), bareBook(), fullBook()} {
		written, e := mould.Print(b)
		if e != api.OK {
			t.Fatal(b, e)
		}
		for i := range len(written) {
			if written[i] < '0' || written[i] > '9' {
				continue
			}
			for digit := byte('0'); digit <= '9'; digit++ {
				if digit != written[i] {
					got, e := mould.Read(written[:i] + string(rune(digit)) + written[i+1:])
					wantError(t, "a digit was changed", e, api.ErrText, got)
				}
			}
		}
	}
}

// P7.8: Read returns ErrText for lines that have not the form, though the CHECK is right.
func TestReadOfWrongLines(t *testing.T) {
	for name, x := range map[string]struct {
		line int
		text string
	}{
		"another word":          {2, "marks 0 1 1"},
		"a capital":             {2, "Mark 0 1 1"},
		"no word":               {2, "0 1 1"},
		"an empty word":         {2, " 0 1 1"},
		"two blanks":            {2, "mark 0  1 1"},
		"a blank in front":      {2, " mark 0 1 1"},
		"a blank behind":        {2, "mark 0 1 1 "},
		"a tab":                 {2, "mark\t0 1 1"},
		"a carriage return":     {2, "mark 0 1 1\r"},
		"a number less":         {2, "mark 0 1"},
		"a number more":         {2, "mark 0 1 1 1"},
		"no numbers":            {2, "mark"},
		"an empty line":         {2, ""},
		"a leading zero":        {2, "mark 0 01 1"},
		"two zeros":             {2, "mark 00 1 1"},
		"three zeros":           {2, "mark 000 1 1"},
		"a minus":               {2, "mark 0 -1 1"},
		"a plus":                {2, "mark 0 +1 1"},
		"a minus and 0":         {2, "mark -0 1 1"},
		"4 digits":              {2, "mark 0 1 1000"},
		"4 digits with a zero":  {2, "mark 0 1 0001"},
		"20 digits":             {2, "mark 0 1 18446744073709551617"},
		"a letter":              {2, "mark 0 x 1"},
		"a letter behind":       {2, "mark 0 1x 1"},
		"near the digits":       {2, "mark 0 : 1"},
		"near the digits too":   {2, "mark 0 / 1"},
		"another digit":         {2, "mark 0 \u0663 1"},
		"no text at all":        {2, "mark \xff 1 1"},
		"a comma":               {2, "mark 0,1 1"},
		"a loan for a mark":     {2, "loan 0 5 6 from 1 2"},
		"a mark for a loan":     {5, "mark 3 1 1"},
		"a book for a mark":     {2, "book 1 0"},
		"an end for a mark":     {2, "end 000"},
		"a mark of 5 numbers":   {2, "mark 0 5 6 1 2"},
		"a Miss alone":          {0, "book 1"},
		"three for a book":      {0, "book 1 0 2"},
		"another book":          {0, "books 1 0"},
		"a mould for a book":    {0, "mould 0 0 0"},
		"a parent alone":        {1, "mould 0"},
		"a mould of 2 numbers":  {6, "mould 1 2"},
		"a mould of 4 numbers":  {6, "mould 1 2 5 1"},
		"a parent of -1":        {1, "mould -1 0 0"},
		"a mark for a mould":    {1, "mark 3 0 0"},
		"no from":               {4, "loan 0 5 6 1 2"},
		"another from":          {4, "loan 0 5 6 form 1 2"},
		"a From":                {4, "loan 0 5 6 From 1 2"},
		"a number for from":     {4, "loan 0 5 6 0 1 2"},
		"from in front":         {4, "loan 0 5 from 6 1 2"},
		"from at the end":       {4, "loan 0 5 6 1 2 from"},
		"a loan of 4 numbers":   {4, "loan 0 5 6 from 1"},
		"a loan of 6 numbers":   {4, "loan 0 5 6 from 1 2 3"},
		"from twice":            {4, "loan 0 5 6 from from 1 2"},
		"from for a number":     {4, "loan from 5 6 from 1 2"},
		"the form":              {2, "mark # # #"},
		"a loan as a form":      {4, "loan # # # from # #"},
		"a mark with a loan":    {2, "mark 0 1 1 from 1 1"},
		"a loan without days":   {4, "loan 0 5 6"},
		"a loan for a book too": {0, "loan 0 5 6 from 1 2"},
	} {
		got, e := mould.Read(sealed(withLine(x.line, x.text)...))
		wantError(t, name, e, api.ErrText, got)
	}
}

// P7.8: Read returns ErrText for lines that are missing, doubled or turned, though the CHECK is right.
func TestReadOfOtherLines(t *testing.T) {
	l := linesB()
	for name, lines := range map[string][]string{
		"nothing":             nil,
		"an empty line":       {""},
		"no book":             l[1:],
		"two books":           append([]string{l[0]}, l...),
		"a book behind":       append(linesB(), l[0]),
		"a book behind all":   append(linesB(), l...),
		"a line in front":     append([]string{""}, l...),
		"a line behind":       append(linesB(), ""),
		"an end behind":       append(linesB(), "end 041"),
		"the book at the end": append(l[1:len(l):len(l)], l[0]),
		"marks without one":   {l[0], l[2]},
		"loans without one":   {l[0], l[4]},
		"a mark before":       {l[0], l[2], l[1], l[4]},
		"a loan before":       {l[0], l[4], l[1], l[2]},
		"a mark behind loans": {l[0], l[1], l[2], l[4], l[3], l[5]},
		"a mark at the end":   {l[0], l[1], l[2], l[4], l[3]},
	} {
		got, e := mould.Read(sealed(lines...))
		wantError(t, name, e, api.ErrText, got)
	}
}

// P7.8: Read returns ErrText for a wrong last line, and for what is behind it.
func TestReadOfWrongEnds(t *testing.T) {
	lines := strings.TrimSuffix(text, "end 041\n")
	for name, written := range map[string]string{
		"nothing":             "",
		"a line feed":         "\n",
		"two line feeds":      "\n\n",
		"only an end":         "end 000",
		"only an end's line":  "end 000\n",
		"no end":              lines,
		"another CHECK":       lines + "end 042\n",
		"one less":            lines + "end 040\n",
		"149 more":            lines + "end 190\n",
		"two digits":          lines + "end 41\n",
		"four digits":         lines + "end 0041\n",
		"no CHECK":            lines + "end\n",
		"two of them":         lines + "end 041 041\n",
		"another word":        lines + "End 041\n",
		"a blank behind":      lines + "end 041 \n",
		"two blanks":          lines + "end  041\n",
		"no last line feed":   lines + "end 041",
		"a line feed more":    text + "\n",
		"a text behind":       text + text,
		"a letter behind":     text + "x",
		"a carriage return":   lines + "end 041\r\n",
		"carriage returns":    strings.ReplaceAll(text, "\n", "\r\n"),
		"a letter less":       text[1:],
		"1000 bytes":          strings.Repeat("x", 1000),
		"1000 line feeds":     strings.Repeat("\n", 1000),
		"no blank":            strings.Replace(text, "book 0", "book0", 1),
		"two lines swapped":   "book 0 0\nloan 0 0 0 from 0 0\nmould 0 0 0\nend 041\n",
		"line feeds for some": strings.ReplaceAll(text, " ", "\n"),
	} {
		got, e := mould.Read(written)
		wantError(t, name, e, api.ErrText, got)
	}
	for name, written := range map[string]string{
		"1001 bytes":      strings.Repeat("x", 1001),
		"1001 line feeds": strings.Repeat("\n", 1001),
		"many bytes":      strings.Repeat(text, 100000),
	} {
		got, e := mould.Read(written)
		wantError(t, name, e, api.ErrLong, got)
	}
}

// P7.8: Read returns ErrArg for the text of a book that is not as defined, with any number of moulds, marks and loans.
func TestReadOfBadBooks(t *testing.T) {
	l := linesB()
	for name, lines := range map[string][]string{
		"a Miss of 3":           withLine(0, "book 3 0"),
		"a Ghost of 3":          withLine(0, "book 1 3"),
		"a Ghost of 999":        withLine(0, "book 1 999"),
		"a parent of its own":   withLine(6, "mould 2 2 5"),
		"a parent of nobody":    withLine(1, "mould 1 0 0"),
		"a parent of 999":       withLine(6, "mould 999 2 5"),
		"a Cut without one":     withLine(6, "mould 0 2 5"),
		"a Cut turned":          withLine(6, "mould 1 5 2"),
		"a Cut too wide":        withLine(6, "mould 1 2 8"),
		"a Cut to 37":           withLine(6, "mould 1 36 37"),
		"a Spot of 8":           withLine(2, "mark 8 1 1"),
		"a spot twice":          withLine(2, "mark 1 1 1"),
		"a parent's spot":       withLine(7, "mark 0 3 4"),
		"a First from 0":        withLine(2, "mark 0 0 1"),
		"a First to 37":         withLine(2, "mark 0 1 37"),
		"a First turned":        withLine(2, "mark 0 2 1"),
		"a House of 6":          withLine(4, "loan 6 5 6 from 1 2"),
		"Strikes to 13":         withLine(4, "loan 0 5 13 from 1 2"),
		"Strikes turned":        withLine(4, "loan 0 6 5 from 1 2"),
		"a day of 100":          withLine(4, "loan 0 5 6 from 1 100"),
		"days turned":           withLine(4, "loan 0 5 6 from 2 1"),
		"no moulds":             l[:1],
		"no loans":              l[:4],
		"a mould alone":         l[:2],
		"no loans of the other": l[:8],
		"five marks":            {l[0], l[1], "mark 3 1 1", "mark 4 1 1", "mark 5 1 1", "mark 6 1 1", "mark 7 1 1", l[4]},
		"four loans":            {l[0], l[1], l[4], l[4], l[4], l[4]},
		"six moulds":            append([]string{l[0]}, slices.Repeat([]string{l[1], l[4]}, 6)...),
		"many moulds":           append([]string{l[0]}, slices.Repeat(l[1:2], 80)...),
	} {
		got, e := mould.Read(sealed(lines...))
		wantError(t, name, e, api.ErrArg, got)
	}
	// 1000 bytes are not too long
	lines := slices.Concat(l[:4], slices.Repeat([]string{"loan 0 0 0 from 0 0"}, 46))
	for i := 0; len(sealed(lines...)) < api.MouldText; i++ {
		lines[4+i] = strings.Replace(lines[4+i], "0 from", "10 from", 1)
	}
	got, e := mould.Read(sealed(lines...))
	if len(sealed(lines...)) != api.MouldText {
		t.Errorf("%d bytes", len(sealed(lines...)))
	}
	wantError(t, "1000 bytes", e, api.ErrArg, got)
	got, e = mould.Read(sealed(append(lines, "loan 0 0 0 from 0 0")...))
	wantError(t, "more bytes", e, api.ErrLong, got)
}

// P7.8: Read has the error of the text before that of the book.
func TestReadOfBoth(t *testing.T) {
	lines := withLine(0, "book 3 0")
	lines[4] = "loan 0 5 6 from 1"
	got, e := mould.Read(sealed(lines...))
	wantError(t, "a wrong line of a book that is not as defined", e, api.ErrText, got)
}
