package dye_test

import (
	"slices"
	"strings"
	"testing"

	"nacre/api"
	"nacre/dye"
)

const text = "house 2 0\ndye 40 2 3 5 5 8 10\ndye 20 1 1 2 2 4 4\nend 056\n"

// linesC returns the lines of h with the stocks of the chapter and one without baths, but for the last line.
func linesC() []string {
	return []string{
		"house 2 4", "dye 40 2 3 5 5 8 10", "dye 20 1 1 2 2 4 4", "stock 2 5 1", "bath 0 0 5 5", "stock 3 9 1", "bath 0 1 2 2",
		"stock 99 999 0", "stock 2 4 2", "bath 0 0 4 5", "bath 1 1 3 3",
	}
}

// stocksOfLines returns the stocks of linesC.
func stocksOfLines() []api.DyeStock {
	l := stocksC()
	return []api.DyeStock{l[0], l[1], stock(nil, 99, 999), stock(batchA(), 2, 4)}
}

// P4.10: Print returns the text of a house with stocks; the chapter's example among others.
func TestPrint(t *testing.T) {
	if got, e := dye.Print(houseH(), nil); e != api.OK || got != text {
		t.Errorf("%q, error %d", got, e)
	}
	if got, e := dye.Print(houseH(), stocksOfLines()); e != api.OK || got != sealed(linesC()...) {
		t.Errorf("%q, error %d", got, e)
	}
	for name, h := range badHouses() {
		got, e := dye.Print(h, nil)
		wantError(t, name, e, api.ErrArg, got)
	}
	for name, l := range badStocks() {
		got, e := dye.Print(houseH(), l)
		wantError(t, name, e, api.ErrArg, got)
	}
}

// stocksBy returns stocks by chance of a house.
func stocksBy(d *dice, h api.DyeHouse) []api.DyeStock {
	var l []api.DyeStock
	for range d.upTo(api.DyeStocks) {
		l = append(l, stock(batchBy(d, h, 0, 99), d.upTo(api.DyeMany), d.upTo(api.DyePrice)))
	}
	return l
}

// P4.10 and P0.11: what was written is read as what was written.
func TestReadOfPrint(t *testing.T) {
	check := func(h api.DyeHouse, l []api.DyeStock) {
		t.Helper()
		got, e := dye.Print(h, l)
		if e != api.OK || len(got) > api.DyeText {
			t.Fatalf("%v, %v: %q, error %d", h, l, got, e)
		}
		house, stocks, e := dye.Read(got)
		if e != api.OK || !sameHouse(house, h) || !sameStocks(stocks, l) {
			t.Fatalf("%q: %v, %v, error %d", got, house, stocks, e)
		}
		if again, e := dye.Print(house, stocks); e != api.OK || again != got {
			t.Fatalf("%q: written again %q, error %d", got, again, e)
		}
	}
	check(houseH(), nil)
	check(houseH(), stocksOfLines())
	check(houseH(), make([]api.DyeStock, 5))
	check(fullHouse())
	d := dice(15)
	for range 300 {
		h := houseBy(&d, 99)
		check(h, stocksBy(&d, h))
	}
}

// P4.10: a text in which one digit was changed to another one is not read.
func TestReadOfChangedDigits(t *testing.T) {
	check := func(h api.DyeHouse, l []api.DyeStock) {
		t.Helper()
		written, e := dye.Print(h, l)
		if e != api.OK {
			t.Fatal(h, l, e)
		}
		for i := range len(written) {
			if written[i] < '0' || written[i] > '9' {
				continue
			}
			for digit := byte('0'); digit <= '9'; digit++ {
				if digit != written[i] {
					house, stocks, e := dye.Read(written[:i] + string(rune(digit)) + written[i+1:])
					wantError(t, "a digit was changed", e, api.ErrText, house, stocks)
				}
			}
		}
	}
	check(houseH(), nil)
	check(houseH(), stocksOfLines())
	check(fullHouse())
}

// P4.10: Read returns ErrText for lines that have not the form, though the CHECK is right.
func TestReadOfWrongLines(t *testing.T) {
	for name, x := range map[string]struct {
		line int
		text string
	}{
		"another word":             {4, "baths 0 0 5 5"},
		"a capital":                {4, "Bath 0 0 5 5"},
		"no word":                  {4, "0 0 5 5"},
		"an empty word":            {4, " 0 0 5 5"},
		"two blanks":               {4, "bath 0  0 5 5"},
		"a blank in front":         {4, " bath 0 0 5 5"},
		"a blank behind":           {4, "bath 0 0 5 5 "},
		"a tab":                    {4, "bath\t0 0 5 5"},
		"a carriage return":        {4, "bath 0 0 5 5\r"},
		"a number less":            {4, "bath 0 0 5"},
		"a number more":            {4, "bath 0 0 5 5 5"},
		"no numbers":               {4, "bath"},
		"an empty line":            {4, ""},
		"a leading zero":           {4, "bath 0 0 05 5"},
		"two zeros":                {4, "bath 00 0 5 5"},
		"three zeros":              {4, "bath 0 000 5 5"},
		"a sign":                   {4, "bath 0 0 -5 5"},
		"a plus":                   {4, "bath 0 0 +5 5"},
		"less than 0, but not":     {4, "bath -0 0 5 5"},
		"4 digits":                 {4, "bath 0 0 1000 1000"},
		"4 digits with a zero":     {4, "bath 0 0 0005 5"},
		"20 digits":                {4, "bath 0 0 18446744073709551621 5"},
		"a letter":                 {4, "bath 0 x 5 5"},
		"a letter behind":          {4, "bath 0 0 5x 5"},
		"near the digits":          {4, "bath 0 0 5: 5"},
		"near the digits too":      {4, "bath 0 0 5/ 5"},
		"a digit of another kind":  {4, "bath 0 \u0663 5 5"},
		"a byte of no kind":        {4, "bath 0 \xff 5 5"},
		"a fraction":               {4, "bath 0 0 5.0 5"},
		"a comma":                  {4, "bath 0, 0 5 5"},
		"an end within":            {4, "end 0 0 5 5"},
		"an end with its CHECK":    {4, "end 056"},
		"a head of one number":     {0, "house 2"},
		"a head of 3 numbers":      {0, "house 2 4 4"},
		"a head with words":        {0, "house 2 stocks 4"},
		"another head":             {0, "houses 2 4"},
		"no head, but a dye":       {0, "dye 40 2 3 5 5 8 10"},
		"a dye less":               {0, "house 1 4"},
		"a dye more":               {0, "house 3 4"},
		"no dyes":                  {0, "house 0 4"},
		"a stock less":             {0, "house 2 3"},
		"a stock more":             {0, "house 2 5"},
		"no stocks":                {0, "house 2 0"},
		"far more of both":         {0, "house 999 999"},
		"a stock's bath less":      {3, "stock 2 5 0"},
		"a stock's bath more":      {3, "stock 2 5 2"},
		"a stock's 999 baths":      {3, "stock 2 5 999"},
		"a last bath less":         {8, "stock 2 4 1"},
		"a last bath more":         {8, "stock 2 4 3"},
		"a bath of the next stock": {7, "stock 99 999 1"},
		"a stock of 2 numbers":     {5, "stock 3 9"},
		"a stock of 4 numbers":     {5, "stock 3 9 1 1"},
		"a stock that is a bath":   {5, "bath 0 1 2 2"},
		"a bath that is a stock":   {6, "stock 0 1 2"},
		"a dye of one temper less": {1, "dye 40 2 3 5 5"},
		"a dye of one temper more": {1, "dye 40 2 3 5 5 8 10 8 10"},
		"a dye of 6 numbers":       {1, "dye 40 2 3 5 5 8"},
		"a dye of 8 numbers":       {1, "dye 40 2 3 5 5 8 10 8"},
		"a dye without Full":       {2, "dye 1 1 2 2 4 4"},
		"a dye that is a stock":    {2, "stock 1 1 0"},
	} {
		lines := linesC()
		lines[x.line] = x.text
		house, stocks, e := dye.Read(sealed(lines...))
		wantError(t, name, e, api.ErrText, house, stocks)
	}
}

// P4.10: Read returns ErrText for lines that are missing, too many or in no order, though the CHECK is right.
func TestReadOfWrongOrders(t *testing.T) {
	l := linesC()
	for name, lines := range map[string][]string{
		"no lines":               {},
		"an empty line":          {""},
		"no head":                l[1:],
		"a head alone":           l[:1],
		"a head and dyes":        l[:3],
		"two heads":              slices.Concat(l[:1], l),
		"a head behind":          slices.Concat(l[1:], l[:1]),
		"a head within":          slices.Concat(l[:3], l[:1], l[3:]),
		"a head at the end":      slices.Concat(l, l[:1]),
		"a dye behind stocks":    slices.Concat(l[:2], l[3:], l[2:3]),
		"a dye before the head":  slices.Concat(l[1:2], l[:1], l[2:]),
		"a stock between dyes":   slices.Concat(l[:2], l[7:8], l[2:7], l[8:]),
		"a bath before stocks":   slices.Concat(l[:3], l[4:5], l[3:4], l[5:]),
		"a bath after the next":  slices.Concat(l[:4], l[5:6], l[4:5], l[6:]),
		"a bath too much":        slices.Concat(l, l[4:5]),
		"a stock too much":       slices.Concat(l, l[7:8]),
		"a dye too much":         slices.Concat(l[:3], l[2:]),
		"a bath too few":         l[:10],
		"two baths too few":      l[:9],
		"an empty line in front": slices.Concat([]string{""}, l),
		"an empty line behind":   slices.Concat(l, []string{""}),
		"an empty line within":   slices.Concat(l[:3], []string{""}, l[3:]),
		"a second text":          slices.Concat(l, l),
		"an end, and another":    slices.Concat(l, []string{"end 056"}),
	} {
		house, stocks, e := dye.Read(sealed(lines...))
		wantError(t, name, e, api.ErrText, house, stocks)
	}
}

// P4.10: Read returns ErrText for another end or CHECK, and ErrLong for more than 500 bytes, before all else.
func TestReadOfWrongEnds(t *testing.T) {
	for name, written := range map[string]string{
		"nothing":              "",
		"a line feed":          "\n",
		"line feeds":           "\n\n\n",
		"no end":               strings.TrimSuffix(text, "end 056\n"),
		"an end alone":         "end 000\n",
		"no line feed":         strings.TrimSuffix(text, "\n"),
		"a line feed more":     text + "\n",
		"something behind":     text + "x",
		"a line behind":        text + "dye 20 1 1 2 2 4 4\n",
		"a byte less":          text[1:],
		"another CHECK":        strings.Replace(text, "056", "057", 1),
		"a CHECK above 113":    strings.Replace(text, "056", "169", 1),
		"a CHECK of 2 digits":  strings.Replace(text, "056", "56", 1),
		"a CHECK of 4 digits":  strings.Replace(text, "056", "0056", 1),
		"no CHECK":             strings.Replace(text, " 056", "", 1),
		"two blanks before it": strings.Replace(text, " 056", "  056", 1),
		"another end":          strings.Replace(text, "end", "End", 1),
		"carriage returns":     strings.ReplaceAll(text, "\n", "\r\n"),
		"500 bytes":            strings.Repeat("x", 500),
		"500 line feeds":       strings.Repeat("\n", 500),
	} {
		house, stocks, e := dye.Read(written)
		wantError(t, name, e, api.ErrText, house, stocks)
	}
	for name, written := range map[string]string{
		"501 bytes":   strings.Repeat("x", 501),
		"a long text": sealed(slices.Concat([]string{"house 40 0"}, slices.Repeat(linesC()[2:3], 40))...),
		"much":        strings.Repeat(text, 100000),
	} {
		house, stocks, e := dye.Read(written)
		wantError(t, name, e, api.ErrLong, house, stocks)
	}
}

// P4.10: Read returns ErrArg for the text of a house or of stocks that are not as defined.
func TestReadOfBadHouses(t *testing.T) {
	l := linesC()
	line := func(n int, text string) []string {
		lines := linesC()
		lines[n] = text
		return lines
	}
	four := slices.Concat([]string{"house 4 0"}, l[1:3], l[1:3])
	six := slices.Concat([]string{"house 2 6"}, l[1:3], slices.Repeat(l[7:8], 6))
	for name, lines := range map[string][]string{
		"no dyes":            {"house 0 0"},
		"no dyes, a stock":   {"house 0 1", "stock 0 0 0"},
		"4 dyes":             four,
		"6 stocks":           six,
		"a Full of 101":      line(1, "dye 101 2 3 5 5 8 10"),
		"a take of 21":       line(1, "dye 40 2 3 5 5 20 21"),
		"a take of 999":      line(1, "dye 40 2 3 5 5 999 999"),
		"takes turned":       line(2, "dye 20 1 1 2 1 4 4"),
		"takes that drift":   line(2, "dye 20 1 4 2 2 4 4"),
		"a Many of 100":      line(3, "stock 100 5 1"),
		"a bath of no dye":   line(4, "bath 2 0 5 5"),
		"a bath of 999":      line(4, "bath 999 0 5 5"),
		"a bath of temper 3": line(6, "bath 0 3 2 2"),
		"hours of 13":        line(6, "bath 0 1 12 13"),
		"hours turned":       line(9, "bath 0 0 5 4"),
		"hours that differ":  line(10, "bath 1 1 3 6"),
		"4 baths":            slices.Concat([]string{"house 2 1"}, l[1:3], []string{"stock 1 1 4"}, slices.Repeat(l[4:5], 4)),
	} {
		house, stocks, e := dye.Read(sealed(lines...))
		wantError(t, name, e, api.ErrArg, house, stocks)
	}
	// 500 bytes are not too long
	lines := slices.Concat([]string{"house 24 0", "dye 400 2 3 5 5 8 10"}, slices.Repeat(l[1:2], 23))
	if n := len(sealed(lines...)); n != 500 {
		t.Fatal(n)
	}
	house, stocks, e := dye.Read(sealed(lines...))
	wantError(t, "500 bytes", e, api.ErrArg, house, stocks)
}

// P4.10: Read has the error of the text before that of the house.
func TestReadOfBoth(t *testing.T) {
	lines := linesC()
	lines[1] = "dye 999 2 3 5 5 8 10"
	lines[10] = "bath 1 1 3"
	house, stocks, e := dye.Read(sealed(lines...))
	wantError(t, "a wrong line of a house that is not as defined", e, api.ErrText, house, stocks)
}
