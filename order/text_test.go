package order_test

import (
	"slices"
	"strings"
	"testing"

	"nacre/api"
	"nacre/order"
)

// text is the text of the chapter's book b.
const text = "book 2 2\ngood 20\ngood 24\ngood 24\ngood 30\nentry 0 0 1\nentry 0 3 3\nentry 1 0 0\nend 145\n"

// linesB returns the lines of the book b, but for the last one.
func linesB() []string {
	return []string{"book 2 2", "good 20", "good 24", "good 24", "good 30", "entry 0 0 1", "entry 0 3 3", "entry 1 0 0"}
}

// withLine returns the lines of the book b with another line at a place.
func withLine(place int, line string) []string {
	lines := linesB()
	lines[place] = line
	return lines
}

// P9.7: Print returns the text of a book, the chapter's example among others.
func TestPrint(t *testing.T) {
	most := slices.Concat([]string{"book 3 5"}, slices.Repeat([]string{"good 99"}, 5),
		[]string{"entry 0 4 4", "entry 2 0 4", "entry 2 4 0", "entry 1 2 2", "entry 1 2 2", "entry 2 1 3", "entry 0 0 0", "entry 2 4 0"})
	for name, x := range map[string]struct {
		b    api.OrderBook
		want string
	}{
		"b":              {bookB(), text},
		"two goods":      {api.OrderBook{Goods: goods(10, 10), Editions: 1}, "book 1 0\ngood 10\ngood 10\nend 058\n"},
		"the least":      {bareBook(2, 1, 0), sealed("book 1 0", "good 1", "good 2")},
		"the most":       {fullBook(), sealed(most...)},
		"a Line":         {changed(func(b *api.OrderBook) { b.Goods[2].Line = 9 }), sealed(withLine(3, "good 9")...)},
		"not possible":   {changed(func(b *api.OrderBook) { b.Moves = 1 }), sealed(withLine(0, "book 2 1")...)},
		"another entry":  {changed(func(b *api.OrderBook) { b.Entries[2] = entry(0, 1, 2) }), sealed(withLine(7, "entry 0 1 2")...)},
		"an entry more":  {with(bookB(), entry(1, 3, 2)), sealed(append(linesB(), "entry 1 3 2")...)},
		"no entries":     {changed(func(b *api.OrderBook) { b.Entries = nil }), sealed(linesB()[:5]...)},
		"an edition yet": {changed(func(b *api.OrderBook) { b.Editions = 3 }), sealed(withLine(0, "book 3 2")...)},
	} {
		if got, e := order.Print(x.b); e != api.OK || got != x.want {
			t.Errorf("%s: %q, error %d, want %q", name, got, e, x.want)
		}
	}
	for name, b := range badBooks() {
		got, e := order.Print(b)
		wantError(t, name, e, api.ErrArg, got)
	}
}

// wantRead fails unless the text of a book is read as that book.
func wantRead(t *testing.T, b api.OrderBook) {
	t.Helper()
	written, e := order.Print(b)
	if e != api.OK || len(written) > api.OrderText {
		t.Fatalf("%v: %q, error %d", b, written, e)
	}
	got, e := order.Read(written)
	if e != api.OK || !sameBook(got, b) {
		t.Fatalf("%q: %v, error %d", written, got, e)
	}
	if again, e := order.Print(got); e != api.OK || again != written {
		t.Fatalf("%q: written again %q, error %d", written, again, e)
	}
}

// P9.7 and P0.11: what was written is read as what was written, also if it is not possible.
func TestReadOfPrint(t *testing.T) {
	for _, b := range []api.OrderBook{bookB(), bareBook(2, 1, 0), bareBook(5, 3, 5), fullBook()} {
		wantRead(t, b)
	}
	for _, b := range tornBooks() {
		wantRead(t, b)
	}
	d := dice(13)
	for range 1000 {
		b, _ := bookBy(&d, size{5, 3})
		for i := range b.Goods {
			b.Goods[i].Line = d.from(1, api.OrderLine)
		}
		wantRead(t, tornBy(&d, b))
	}
}

// P9.7: a text in which one digit was changed to another one is not read.
func TestReadOfChangedDigits(t *testing.T) {
	d := dice(14)
	books := []api.OrderBook{bookB(), bareBook(2, 1, 0), bareBook(5, 3, 5), fullBook()}
	for range 20 {
		b, _ := largeBy(&d)
		books = append(books, b)
	}
	for _, b := range books {
		written, e := order.Print(b)
		if e != api.OK {
			t.Fatal(b, e)
		}
		for i := range len(written) {
			if written[i] < '0' || written[i] > '9' {
				continue
			}
			for digit := byte('0'); digit <= '9'; digit++ {
				if digit != written[i] {
					got, e := order.Read(written[:i] + string(rune(digit)) + written[i+1:])
					wantError(t, "a digit was changed", e, api.ErrText, got)
				}
			}
		}
	}
}

// P9.7: Read returns ErrText for lines that have not the form, though the CHECK is right.
func TestReadOfWrongLines(t *testing.T) {
	for name, x := range map[string]struct {
		line int
		text string
	}{
		"another word":          {1, "goods 20"},
		"a capital":             {1, "Good 20"},
		"no word":               {1, "20"},
		"an empty word":         {1, " 20"},
		"two blanks":            {1, "good  20"},
		"a blank in front":      {1, " good 20"},
		"a blank behind":        {1, "good 20 "},
		"a tab":                 {1, "good\t20"},
		"a carriage return":     {1, "good 20\r"},
		"no LINE":               {1, "good"},
		"two of LINE":           {1, "good 20 20"},
		"an empty line":         {1, ""},
		"a leading zero":        {1, "good 02"},
		"three digits":          {1, "good 020"},
		"100":                   {1, "good 100"},
		"two zeros":             {1, "good 00"},
		"20 digits":             {1, "good 18446744073709551636"},
		"a minus":               {1, "good -2"},
		"a plus":                {1, "good +2"},
		"a letter":              {1, "good x"},
		"a letter behind":       {1, "good 2x"},
		"near the digits":       {1, "good :"},
		"near the digits too":   {1, "good /"},
		"another digit":         {1, "good \u0661"},
		"no text at all":        {1, "good \xff"},
		"a comma":               {1, "good 2,0"},
		"a form":                {1, "good LINE"},
		"a book for a good":     {1, "book 20"},
		"two books":             {1, "book 2 2"},
		"an end for a good":     {1, "end 145"},
		"an entry for a good":   {1, "entry 20"},
		"an entry, then a good": {1, "entry 0 0 1"},
		"a good for a book":     {0, "good 2 2"},
		"another good":          {0, "good 20"},
		"an entry for a book":   {0, "entry 2 2"},
		"another entry":         {0, "entry 0 0 1"},
		"EDITIONS alone":        {0, "book 2"},
		"three for a book":      {0, "book 2 2 0"},
		"no numbers":            {0, "book"},
		"EDITIONS with a zero":  {0, "book 02 2"},
		"MOVES of -1":           {0, "book 2 -1"},
		"MOVES of 100":          {0, "book 2 100"},
		"a blank behind all":    {0, "book 2 2 "},
		"another book":          {0, "books 2 2"},
		"an empty book":         {0, ""},
		"an entry of two":       {6, "entry 0 3"},
		"an entry of four":      {6, "entry 0 3 3 0"},
		"an entry of none":      {6, "entry"},
		"an entry with a zero":  {6, "entry 00 3 3"},
		"an entry of 100":       {6, "entry 0 3 100"},
		"an entry of -1":        {6, "entry 0 -1 3"},
		"two blanks in it":      {6, "entry 0  3 3"},
		"entries":               {6, "entries 0 3 3"},
		"a good for an entry":   {6, "good 0 3 3"},
		"a good among entries":  {6, "good 30"},
		"a good at the end":     {7, "good 30"},
		"a book at the end":     {7, "book 2 2"},
		"an empty one there":    {7, ""},
	} {
		got, e := order.Read(sealed(withLine(x.line, x.text)...))
		wantError(t, name, e, api.ErrText, got)
	}
}

// P9.7: Read returns ErrText for lines that are missing, doubled or turned, though the CHECK is right.
func TestReadOfOtherLines(t *testing.T) {
	l := linesB()
	for name, lines := range map[string][]string{
		"nothing":            nil,
		"an empty line":      {""},
		"no book":            l[1:],
		"entries alone":      l[5:],
		"a book after one":   {l[5], l[0]},
		"two books":          append([]string{l[0]}, l...),
		"a book behind":      append(linesB(), l[0]),
		"a book behind all":  append(linesB(), l...),
		"a line in front":    append([]string{""}, l...),
		"a line behind":      append(linesB(), ""),
		"an end behind":      append(linesB(), "end 145"),
		"goods before it":    slices.Concat(l[1:5], l[:1], l[5:]),
		"entries before":     slices.Concat(l[:1], l[5:], l[1:5]),
		"entries among them": slices.Concat(l[:3], l[5:6], l[3:5], l[6:]),
		"a good behind":      append(linesB(), l[1]),
	} {
		got, e := order.Read(sealed(lines...))
		wantError(t, name, e, api.ErrText, got)
	}
}

// P9.7: Read returns ErrText for a text without the right end, ErrLong for one that is too long.
func TestReadOfWrongEnds(t *testing.T) {
	lines := strings.TrimSuffix(text, "end 145\n")
	for name, written := range map[string]string{
		"nothing":            "",
		"a line feed":        "\n",
		"no end":             lines,
		"the end alone":      "end 145\n",
		"the end of nothing": "end 000\n",
		"another CHECK":      lines + "end 144\n",
		"151 more":           lines + "end 296\n",
		"two digits":         lines + "end 45\n",
		"four digits":        lines + "end 0145\n",
		"no CHECK":           lines + "end\n",
		"two of them":        lines + "end 145 145\n",
		"another word":       lines + "End 145\n",
		"a blank behind":     lines + "end 145 \n",
		"two blanks":         lines + "end  145\n",
		"no last line feed":  lines + "end 145",
		"a line feed more":   text + "\n",
		"a letter behind":    text + "x",
		"a text behind":      text + text,
		"a carriage return":  lines + "end 145\r\n",
		"carriage returns":   strings.ReplaceAll(text, "\n", "\r\n"),
		"a letter less":      text[1:],
		"300 bytes":          strings.Repeat("x", 300),
		"300 line feeds":     strings.Repeat("\n", 300),
		"no blank":           strings.Replace(text, "book 2", "book2", 1),
		"two lines swapped":  strings.Replace(text, "good 20\ngood 24", "good 24\ngood 20", 1),
		"two entries":        strings.Replace(text, "entry 0 0 1\nentry 0 3 3", "entry 0 3 3\nentry 0 0 1", 1),
		"other line feeds":   strings.ReplaceAll(text, " ", "\n"),
		"no leading zero":    "book 1 0\ngood 10\ngood 10\nend 58\n",
	} {
		got, e := order.Read(written)
		wantError(t, name, e, api.ErrText, got)
	}
	for name, written := range map[string]string{
		"301 bytes":      strings.Repeat("x", 301),
		"301 line feeds": strings.Repeat("\n", 301),
		"many bytes":     strings.Repeat(text, 100000),
	} {
		got, e := order.Read(written)
		wantError(t, name, e, api.ErrLong, got)
	}
}

// manyGoods returns the lines of a book with so many goods with a short Line, and so many with a long one.
func manyGoods(short, long int) []string {
	return slices.Concat([]string{"book 1 0"}, slices.Repeat([]string{"good 1"}, short), slices.Repeat([]string{"good 10"}, long))
}

// P9.7: Read returns ErrArg for the text of a book that is not as defined, with any number of goods and entries.
func TestReadOfBadBooks(t *testing.T) {
	for name, lines := range map[string][]string{
		"no goods":             {"book 2 2"},
		"no goods, an entry":   {"book 2 2", "entry 0 0 0"},
		"one of the goods":     {"book 1 0", "good 10"},
		"6 goods":              manyGoods(6, 0),
		"9 entries":            append(linesB(), slices.Repeat(linesB()[5:], 2)...),
		"a LINE of 0":          withLine(1, "good 0"),
		"no EDITIONS":          {"book 0 0", "good 10", "good 10"},
		"an edition less":      withLine(0, "book 1 2"),
		"4 EDITIONS":           withLine(0, "book 4 2"),
		"99 EDITIONS":          withLine(0, "book 99 2"),
		"MOVES of 6":           withLine(0, "book 2 6"),
		"MOVES of 99":          withLine(0, "book 2 99"),
		"the edition 2":        withLine(5, "entry 2 0 1"),
		"the number 4":         withLine(5, "entry 0 4 1"),
		"one of the goods, 4":  withLine(7, "entry 1 0 4"),
		"an entry of 99":       withLine(7, "entry 99 99 99"),
		"one of the goods, 99": withLine(7, "entry 1 0 99"),
	} {
		got, e := order.Read(sealed(lines...))
		wantError(t, name, e, api.ErrArg, got)
	}
	// 300 bytes are not too long
	long := sealed(manyGoods(37, 3)...)
	got, e := order.Read(long)
	if len(long) != api.OrderText {
		t.Errorf("%d bytes", len(long))
	}
	wantError(t, "300 bytes", e, api.ErrArg, got)
	got, e = order.Read(sealed(manyGoods(36, 4)...))
	wantError(t, "301 bytes", e, api.ErrLong, got)
}

// P9.7: Read has the error of the text before that of the book.
func TestReadOfBoth(t *testing.T) {
	lines := withLine(0, "book 4 2")
	lines[7] = "entry 1 0"
	got, e := order.Read(sealed(lines...))
	wantError(t, "a wrong line of a book that is not as defined", e, api.ErrText, got)
}
