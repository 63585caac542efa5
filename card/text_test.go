package card_test

import (
	"slices"
	"strings"
	"testing"

	"nacre/api"
	"nacre/card"
)

const text = "round 12 2\nweigh 2 3 5 4\nhouse 60 5 4 7 1 185\nhouse 50 4 3 9 1 150\nall 100 0\nend 029\n"

// linesR returns the lines of the round r, but for the last one.
func linesR() []string {
	return []string{"round 12 2", "weigh 2 3 5 4", "house 60 5 4 7 1 185", "house 50 4 3 9 1 150", "all 100 0"}
}

// withLine returns the lines of the round r with another line at a place.
func withLine(place int, line string) []string {
	lines := linesR()
	lines[place] = line
	return lines
}

// P6.8: Print returns the text of a round, also of one that does not agree; the chapter's example among others.
func TestPrint(t *testing.T) {
	if got, e := card.Print(roundR()); e != api.OK || got != text {
		t.Errorf("%q, error %d", got, e)
	}
	lines := linesR()
	lines[2], lines[4] = "house 60 5 4 7 1 149", "all 91 0"
	if got, e := card.Print(roundQ()); e != api.OK || got != sealed(lines...) {
		t.Errorf("%q, error %d", got, e)
	}
	if got, e := card.Print(bareRound()); e != api.OK || got != sealed("round 2 1", "weigh 1 1 0 0", "house 0 0 0 0 0 0", "all 0 0") {
		t.Errorf("%q, error %d", got, e)
	}
	house := "house 3000 60 60 36 3 200000"
	if got, e := card.Print(fullRound()); e != api.OK || got != sealed("round 36 4", "weigh 46 50 100 500", house, house, house, house, "all 12000 100") {
		t.Errorf("%q, error %d", got, e)
	}
	for name, r := range badRounds() {
		got, e := card.Print(r)
		wantError(t, name, e, api.ErrArg, got)
	}
}

// P6.8 and P0.11: what was written is read as what was written.
func TestReadOfPrint(t *testing.T) {
	check := func(r api.CardRound) {
		t.Helper()
		written, e := card.Print(r)
		if e != api.OK || len(written) > api.CardText {
			t.Fatalf("%v: %q, error %d", r, written, e)
		}
		got, e := card.Read(written)
		if e != api.OK || !sameRound(got, r) {
			t.Fatalf("%q: %v, error %d", written, got, e)
		}
		if again, e := card.Print(got); e != api.OK || again != written {
			t.Fatalf("%q: written again %q, error %d", written, again, e)
		}
	}
	for _, r := range []api.CardRound{roundR(), roundQ(), bareRound(), fullRound()} {
		check(r)
	}
	d := dice(13)
	for range 1000 {
		r, _ := roundBy(&d, large())
		miscount(&d, r, 0)
		check(r)
	}
}

// P6.8: a text in which one digit was changed to another one is not read.
func TestReadOfChangedDigits(t *testing.T) {
	for _, r := range []api.CardRound{roundR(), roundQ(), bareRound(), fullRound()} {
		written, e := card.Print(r)
		if e != api.OK {
			t.Fatal(r, e)
		}
		for i := range len(written) {
			if written[i] < '0' || written[i] > '9' {
				continue
			}
			for digit := byte('0'); digit <= '9'; digit++ {
				if digit != written[i] {
					got, e := card.Read(written[:i] + string(rune(digit)) + written[i+1:])
					wantError(t, "a digit was changed", e, api.ErrText, got)
				}
			}
		}
	}
}

// P6.8: Read returns ErrText for lines that have not the form, though the CHECK is right.
func TestReadOfWrongLines(t *testing.T) {
	for name, x := range map[string]struct {
		line int
		text string
	}{
		"another word":         {1, "weight 2 3 5 4"},
		"a capital":            {1, "Weigh 2 3 5 4"},
		"no word":              {1, "2 3 5 4"},
		"an empty word":        {1, " 2 3 5 4"},
		"two blanks":           {1, "weigh 2  3 5 4"},
		"a blank in front":     {1, " weigh 2 3 5 4"},
		"a blank behind":       {1, "weigh 2 3 5 4 "},
		"a tab":                {1, "weigh\t2 3 5 4"},
		"a carriage return":    {1, "weigh 2 3 5 4\r"},
		"a number less":        {1, "weigh 2 3 5"},
		"a number more":        {1, "weigh 2 3 5 4 0"},
		"no numbers":           {1, "weigh"},
		"an empty line":        {1, ""},
		"a leading zero":       {1, "weigh 2 3 05 4"},
		"two zeros":            {4, "all 100 00"},
		"six zeros":            {4, "all 100 000000"},
		"a minus":              {1, "weigh 2 3 -5 4"},
		"a plus":               {1, "weigh 2 3 +5 4"},
		"a minus and 0":        {4, "all 100 -0"},
		"7 digits":             {2, "house 60 5 4 7 1 1000000"},
		"7 digits with a zero": {2, "house 60 5 4 7 1 0000185"},
		"20 digits":            {2, "house 60 5 4 7 1 18446744073709551801"},
		"a letter":             {1, "weigh 2 x 5 4"},
		"a letter behind":      {1, "weigh 2 3x 5 4"},
		"near the digits":      {1, "weigh 2 3: 5 4"},
		"near the digits too":  {1, "weigh 2 3/ 5 4"},
		"another digit":        {1, "weigh 2 \u0663 5 4"},
		"no text at all":       {1, "weigh 2 \xff 5 4"},
		"a comma":              {1, "weigh 2,3 5 4"},
		"no houses said":       {0, "round 12"},
		"more said":            {0, "round 12 2 0"},
		"no houses":            {0, "round 12 0"},
		"1 house":              {0, "round 12 1"},
		"3 houses":             {0, "round 12 3"},
		"many houses":          {0, "round 12 999999"},
		"no All":               {4, "all"},
		"no Off":               {4, "all 100"},
		"more than Off":        {4, "all 100 0 0"},
		"a house for all":      {4, "house 50 4 3 9 1 150"},
		"all for a house":      {3, "all 100 0"},
		"a weigh for a house":  {2, "weigh 2 3 5 4"},
		"a round for a house":  {3, "round 12 2"},
		"an end for a house":   {3, "end 000"},
		"a house of 5 numbers": {2, "house 60 5 4 7 1"},
		"a house of 7 numbers": {2, "house 60 5 4 7 1 185 0"},
	} {
		got, e := card.Read(sealed(withLine(x.line, x.text)...))
		wantError(t, name, e, api.ErrText, got)
	}
}

// P6.8: Read returns ErrText for lines that are missing, doubled or turned, though the CHECK is right.
func TestReadOfOtherLines(t *testing.T) {
	l := linesR()
	for i, line := range l {
		got, e := card.Read(sealed(slices.Concat(l[:i], l[i+1:])...))
		wantError(t, "without "+line, e, api.ErrText, got)
		got, e = card.Read(sealed(slices.Concat(l[:i], []string{line}, l[i:])...))
		wantError(t, "twice "+line, e, api.ErrText, got)
		for j := range i {
			turned := linesR()
			turned[i], turned[j] = turned[j], turned[i]
			if i == 3 && j == 2 {
				continue // two houses
			}
			got, e := card.Read(sealed(turned...))
			wantError(t, "turned "+line, e, api.ErrText, got)
		}
	}
	for name, lines := range map[string][]string{
		"nothing":             nil,
		"an empty line":       {""},
		"a line behind":       append(linesR(), ""),
		"an end behind":       append(linesR(), "end 029"),
		"a line in front":     append([]string{""}, l...),
		"two rounds":          append(linesR(), linesR()...),
		"only a round":        l[:1],
		"no houses, no all":   {"round 12 0", "weigh 2 3 5 4"},
		"no houses, but one":  {"round 12 0", "weigh 2 3 5 4", l[2], "all 100 0"},
		"all before weigh":    {"round 12 0", "all 100 0", "weigh 2 3 5 4"},
		"all without a weigh": {"round 12 0", "all 100 0"},
	} {
		got, e := card.Read(sealed(lines...))
		wantError(t, name, e, api.ErrText, got)
	}
}

// P6.8: Read returns ErrText for a wrong last line, and for what is behind it.
func TestReadOfWrongEnds(t *testing.T) {
	lines := strings.TrimSuffix(text, "end 029\n")
	for name, written := range map[string]string{
		"nothing":             "",
		"a line feed":         "\n",
		"two line feeds":      "\n\n",
		"only an end":         "end 000",
		"no end":              lines,
		"another CHECK":       lines + "end 030\n",
		"one less":            lines + "end 028\n",
		"139 more":            lines + "end 168\n",
		"two digits":          lines + "end 29\n",
		"four digits":         lines + "end 0029\n",
		"no CHECK":            lines + "end\n",
		"two of them":         lines + "end 029 029\n",
		"another word":        lines + "End 029\n",
		"a blank behind":      lines + "end 029 \n",
		"two blanks":          lines + "end  029\n",
		"no last line feed":   lines + "end 029",
		"a line feed more":    text + "\n",
		"a text behind":       text + text,
		"a letter behind":     text + "x",
		"a carriage return":   lines + "end 029\r\n",
		"carriage returns":    strings.ReplaceAll(text, "\n", "\r\n"),
		"a letter less":       text[1:],
		"400 bytes":           strings.Repeat("x", 400),
		"400 line feeds":      strings.Repeat("\n", 400),
		"no blank":            strings.Replace(text, "all 100", "all100", 1),
		"two digits swapped":  strings.Replace(text, "185", "158", 1),
		"two lines swapped":   strings.Join([]string{"round 12 2", "weigh 2 3 5 4", "house 50 4 3 9 1 150", "house 60 5 4 7 1 185", "all 100 0", "end 029", ""}, "\n"),
		"line feeds for some": strings.ReplaceAll(text, " ", "\n"),
	} {
		got, e := card.Read(written)
		wantError(t, name, e, api.ErrText, got)
	}
	for name, written := range map[string]string{
		"401 bytes":      strings.Repeat("x", 401),
		"401 line feeds": strings.Repeat("\n", 401),
		"many bytes":     strings.Repeat(text, 100000),
	} {
		got, e := card.Read(written)
		wantError(t, name, e, api.ErrLong, got)
	}
}

// P6.8: Read returns ErrArg for the text of a round that is not as defined, with any number of houses.
func TestReadOfBadRounds(t *testing.T) {
	house := linesR()[2]
	for name, lines := range map[string][]string{
		"a Per of 1":        withLine(0, "round 1 2"),
		"a Per of 37":       withLine(0, "round 37 2"),
		"a Per of 0":        withLine(0, "round 0 2"),
		"a Per of 999999":   withLine(0, "round 999999 2"),
		"buttons turned":    withLine(1, "weigh 3 2 5 4"),
		"buttons from 0":    withLine(1, "weigh 0 3 5 4"),
		"buttons to 51":     withLine(1, "weigh 50 51 5 4"),
		"buttons too wide":  withLine(1, "weigh 2 7 5 4"),
		"a Card of 101":     withLine(1, "weigh 2 3 101 4"),
		"a Slack of 501":    withLine(1, "weigh 2 3 5 501"),
		"an Out of 3001":    withLine(2, "house 3001 5 4 7 1 185"),
		"Cards of 61":       withLine(2, "house 60 61 4 7 1 185"),
		"a Full of 61":      withLine(2, "house 60 5 61 7 1 185"),
		"a Loose of 37":     withLine(2, "house 60 5 4 37 1 185"),
		"a Miss of 4":       withLine(2, "house 60 5 4 7 4 185"),
		"a Weighed too far": withLine(3, "house 50 4 3 9 1 200001"),
		"999999 weighed":    withLine(3, "house 50 4 3 9 1 999999"),
		"an All of 12001":   withLine(4, "all 12001 0"),
		"an Off of 101":     withLine(4, "all 100 101"),
		"no houses":         {"round 12 0", "weigh 2 3 5 4", "all 100 0"},
		"5 houses":          {"round 12 5", "weigh 2 3 5 4", house, house, house, house, house, "all 100 0"},
	} {
		got, e := card.Read(sealed(lines...))
		wantError(t, name, e, api.ErrArg, got)
	}
	// 400 bytes are not too long
	lines := slices.Concat([]string{"round 12 15", "weigh 2 3 5 4"}, slices.Repeat([]string{"house 60 5 4 7 1 1"}, 15), []string{"all 100 0"})
	for i := 0; len(sealed(lines...)) < api.CardText; i++ {
		lines[2+i%15] += "1"
	}
	got, e := card.Read(sealed(lines...))
	wantError(t, "400 bytes", e, api.ErrArg, got)
}

// P6.8: Read has the error of the text before that of the round.
func TestReadOfBoth(t *testing.T) {
	lines := withLine(0, "round 1 2")
	lines[4] = "all 100"
	got, e := card.Read(sealed(lines...))
	wantError(t, "a wrong line of a round that is not as defined", e, api.ErrText, got)
}
