package drum_test

import (
	"slices"
	"strings"
	"testing"

	"nacre/api"
	"nacre/drum"
)

const slip = "drum 1 known 1\nacid 5 5 fall 0 0\nadd 0\nbatch 0 0 0 0 0 0\nend 011\n"

// slipped returns the drum of the chapter's slip.
func slipped() api.DrumDrum { return plain(5, 1, batch(0, 0, 0, 0, 0, 0)) }

// linesD returns the lines of the slip of d, without the last one.
func linesD() []string {
	return []string{
		"drum 4 known 3", "acid 40 50 fall 5 5", "acid 60 80 fall 10 20", "add 0 0 0 0", "strip 1 40 5",
		"batch 100 30 200 150 100 40", "batch 60 30 100 70 50 20", "batch 20 20 50 30 10 40",
	}
}

// P3.9: Print returns the slip of a drum; the chapter's example among others.
func TestPrint(t *testing.T) {
	if text, e := drum.Print(slipped()); e != api.OK || text != slip {
		t.Errorf("%q, error %d", text, e)
	}
	if text, e := drum.Print(drumD()); e != api.OK || text != sealed(linesD()...) {
		t.Errorf("%q, error %d", text, e)
	}
	two := torn()
	two.Adds = []int{1, 20, 100, 0}
	two.Strips = append(two.Strips, strip(0, 2000, 50), strip(3, 0, 0))
	lines := linesD()
	want := sealed(slices.Concat(lines[:3], []string{"add 1 20 100 0", "strip 1 100 5", "strip 0 2000 50", "strip 3 0 0"}, lines[5:])...)
	if text, e := drum.Print(two); e != api.OK || text != want {
		t.Errorf("a drum that is not possible: %q, error %d, want %q", text, e, want)
	}
	for name, change := range badDrums() {
		text, e := drum.Print(changed(change))
		wantError(t, name, e, api.ErrArg, text)
	}
}

// P3.9 and P0.11: what was written is read as what was written, also of a drum that is not possible.
func TestReadOfPrint(t *testing.T) {
	drums := []api.DrumDrum{drumD(), drumE(), drumF(), drumG(), torn(), full(), slipped()}
	d := dice(31)
	for i := range 300 {
		x, _ := drumBy(&d)
		if i%2 == 0 {
			x, _ = bigDrum(&d)
		}
		if d.upTo(1) == 0 {
			x.Strips = append(x.Strips[:min(len(x.Strips), 5)], strip(d.upTo(x.Hours-1), d.upTo(2000), d.upTo(50)))
		}
		drums = append(drums, x)
	}
	for _, x := range drums {
		text, e := drum.Print(x)
		if e != api.OK || len(text) > api.DrumText {
			t.Fatalf("%v: %q, error %d", x, text, e)
		}
		got, e := drum.Read(text)
		if e != api.OK || !sameDrum(got, x) {
			t.Fatalf("%q: %v, error %d, want %v", text, got, e, x)
		}
		if again, e := drum.Print(got); e != api.OK || again != text {
			t.Fatalf("%q: written again %q, error %d", text, again, e)
		}
	}
}

// P3.9: a slip in which one digit was changed to another one is not read.
func TestReadOfChangedDigits(t *testing.T) {
	for _, x := range []api.DrumDrum{drumD(), drumG(), full(), slipped()} {
		text, e := drum.Print(x)
		if e != api.OK {
			t.Fatal(x, e)
		}
		for i := range len(text) {
			if text[i] < '0' || text[i] > '9' {
				continue
			}
			for digit := byte('0'); digit <= '9'; digit++ {
				if digit == text[i] {
					continue
				}
				x, e := drum.Read(text[:i] + string(digit) + text[i+1:])
				wantError(t, "a digit was changed", e, api.ErrText, x)
			}
		}
	}
}

// P3.9: Read returns ErrText for lines that have not the form, though the CHECK is right.
func TestReadOfWrongLines(t *testing.T) {
	for name, x := range map[string]struct {
		line int
		text string
	}{
		"another word":             {4, "stripe 1 40 5"},
		"a capital":                {4, "Strip 1 40 5"},
		"no word":                  {4, "1 40 5"},
		"two blanks":               {4, "strip 1  40 5"},
		"a blank in front":         {4, " strip 1 40 5"},
		"a blank behind":           {4, "strip 1 40 5 "},
		"a tab":                    {4, "strip\t1 40 5"},
		"a carriage return":        {4, "strip 1 40 5\r"},
		"a number less":            {4, "strip 1 40"},
		"a number more":            {4, "strip 1 40 5 5"},
		"no numbers":               {4, "strip"},
		"an empty line":            {4, ""},
		"a leading zero":           {4, "strip 1 040 5"},
		"two zeros":                {4, "strip 00 40 5"},
		"a sign":                   {4, "strip 1 -40 5"},
		"a plus":                   {4, "strip 1 +40 5"},
		"less than 0, but not":     {4, "strip -0 40 5"},
		"5 digits":                 {4, "strip 1 40000 5"},
		"5 digits with a zero":     {4, "strip 1 00040 5"},
		"20 digits":                {4, "strip 1 18446744073709551656 5"},
		"a letter":                 {4, "strip 1 x 5"},
		"a letter behind":          {4, "strip 1 40x 5"},
		"near the digits":          {4, "strip 1 4: 5"},
		"near the digits too":      {4, "strip 1 4/ 5"},
		"a digit of another kind":  {4, "strip 1 \u0663 5"},
		"a byte of no kind":        {4, "strip 1 \xff 5"},
		"a fraction":               {4, "strip 1 4.0 5"},
		"a mark for a number":      {4, "strip # # #"},
		"a head of one number":     {0, "drum 4 known"},
		"a head of 3 numbers":      {0, "drum 4 known 3 3"},
		"a head without known":     {0, "drum 4 3"},
		"a head with another word": {0, "drum 4 knows 3"},
		"a head turned about":      {0, "known 3 drum 4"},
		"a word where a number is": {0, "drum known 4 3"},
		"another head":             {0, "drums 4 known 3"},
		"an acid without fall":     {1, "acid 40 50 5 5"},
		"an acid with full":        {1, "acid 40 50 full 5 5"},
		"an acid of 3 numbers":     {2, "acid 60 80 fall 10"},
		"an acid of 5 numbers":     {2, "acid 60 80 fall 10 20 30"},
		"fall one word before":     {1, "acid 40 fall 50 5 5"},
		"an add with a letter":     {3, "add 0 0 x 0"},
		"an add with a sign":       {3, "add 0 0 0 -1"},
		"an add with two blanks":   {3, "add 0  0 0 0"},
		"an add and a blank":       {3, "add "},
		"an add with commas":       {3, "add 0, 0, 0, 0"},
		"adds":                     {3, "adds 0 0 0 0"},
		"a batch of 5 numbers":     {6, "batch 60 30 100 70 50"},
		"a batch of 7 numbers":     {6, "batch 60 30 100 70 50 20 20"},
		"batches":                  {7, "batches 20 20 50 30 10 40"},
	} {
		lines := linesD()
		lines[x.line] = x.text
		d, e := drum.Read(sealed(lines...))
		wantError(t, name, e, api.ErrText, d)
	}
}

// P3.9: Read returns ErrText for lines that are missing, too many or in no order, though the CHECK is right.
func TestReadOfWrongOrders(t *testing.T) {
	l := linesD()
	for name, lines := range map[string][]string{
		"no lines":                 {},
		"an empty line":            {""},
		"no head":                  l[1:],
		"no add":                   slices.Concat(l[:3], l[4:]),
		"a head alone":             l[:1],
		"a head and acids alone":   l[:3],
		"two heads":                slices.Concat(l[:1], l),
		"two adds":                 slices.Concat(l[:4], l[3:]),
		"a head behind":            slices.Concat(l[1:], l[:1]),
		"an acid behind add":       slices.Concat(l[:2], l[3:4], l[2:3], l[4:]),
		"an acid behind":           slices.Concat(l[:2], l[3:], l[2:3]),
		"a strip before add":       slices.Concat(l[:3], l[4:5], l[3:4], l[5:]),
		"a strip behind a batch":   slices.Concat(l[:4], l[5:6], l[4:5], l[6:]),
		"a strip at the end":       slices.Concat(l[:4], l[5:], l[4:5]),
		"a batch before add":       slices.Concat(l[:3], l[5:6], l[3:5], l[6:]),
		"an empty line in front":   slices.Concat([]string{""}, l),
		"an empty line behind":     slices.Concat(l, []string{""}),
		"an empty line within":     slices.Concat(l[:6], []string{""}, l[6:]),
		"a second slip":            slices.Concat(l, l),
		"an end, and then another": slices.Concat(l, []string{"end 011"}),
	} {
		d, e := drum.Read(sealed(lines...))
		wantError(t, name, e, api.ErrText, d)
	}
}

// P3.9: Read returns ErrText for another end or CHECK, and ErrLong for more than 600 bytes, before all else.
func TestReadOfWrongEnds(t *testing.T) {
	for name, text := range map[string]string{
		"nothing":              "",
		"a line feed":          "\n",
		"line feeds":           "\n\n\n",
		"no end":               strings.Join(linesD(), "\n") + "\n",
		"an end alone":         "end 000\n",
		"no line feed":         strings.TrimSuffix(slip, "\n"),
		"a line feed more":     slip + "\n",
		"something behind":     slip + "x",
		"a line behind":        slip + "add 0\n",
		"a byte less":          slip[1:],
		"another CHECK":        strings.Replace(slip, "011", "012", 1),
		"a CHECK above 103":    strings.Replace(slip, "011", "114", 1),
		"a CHECK of 2 digits":  strings.Replace(slip, "011", "11", 1),
		"a CHECK of 4 digits":  strings.Replace(slip, "011", "0011", 1),
		"no CHECK":             strings.Replace(slip, " 011", "", 1),
		"two blanks before it": strings.Replace(slip, " 011", "  011", 1),
		"another end":          strings.Replace(slip, "end", "End", 1),
		"carriage returns":     strings.ReplaceAll(slip, "\n", "\r\n"),
		"600 bytes":            strings.Repeat("x", 600),
		"600 line feeds":       strings.Repeat("\n", 600),
	} {
		d, e := drum.Read(text)
		wantError(t, name, e, api.ErrText, d)
	}
	lines := slices.Concat(linesD(), slices.Repeat(linesD()[7:], 20))
	for name, text := range map[string]string{
		"601 bytes":   strings.Repeat("x", 601),
		"a long slip": sealed(lines...),
		"much":        strings.Repeat(slip, 10000),
	} {
		d, e := drum.Read(text)
		wantError(t, name, e, api.ErrLong, d)
	}
}

// P3.9: Read returns ErrArg for the slip of a drum that is not as defined, with any number of lines and of ADDs.
func TestReadOfBadDrums(t *testing.T) {
	l := linesD()
	// line returns the lines of d with another one
	line := func(n int, text string) []string {
		lines := linesD()
		lines[n] = text
		return lines
	}
	for name, lines := range map[string][]string{
		"no acids":           slices.Concat(l[:1], l[3:]),
		"5 acids":            slices.Concat(l[:3], l[1:2], l[1:2], l[1:2], l[3:]),
		"7 strips":           slices.Concat(l[:4], slices.Repeat(l[4:5], 7), l[5:]),
		"no batches":         l[:5],
		"6 batches":          slices.Concat(l, l[5:]),
		"no adds":            line(3, "add"),
		"an add less":        line(3, "add 0 0 0"),
		"an add more":        line(3, "add 0 0 0 0 0"),
		"an add of 101":      line(3, "add 0 0 101 0"),
		"no hours":           line(0, "drum 0 known 3"),
		"13 hours":           slices.Concat([]string{"drum 13 known 3"}, l[1:3], []string{"add" + strings.Repeat(" 0", 13)}, l[4:]),
		"another hour":       line(0, "drum 3 known 3"),
		"9999 hours":         line(0, "drum 9999 known 3"),
		"none known":         line(0, "drum 4 known 0"),
		"a third known":      line(0, "drum 4 known 4"),
		"a strength of 101":  line(1, "acid 40 101 fall 5 5"),
		"strength upside":    line(1, "acid 50 40 fall 5 5"),
		"a fall of 21":       line(1, "acid 40 50 fall 5 21"),
		"fall upside down":   line(1, "acid 40 50 fall 5 4"),
		"a strip of hour 4":  line(4, "strip 4 40 5"),
		"seen 2001":          line(4, "strip 1 2001 5"),
		"off by 51":          line(4, "strip 1 40 51"),
		"a Rough of 1001":    line(5, "batch 1001 30 200 150 100 40"),
		"a Goal of 9999":     line(5, "batch 100 9999 200 150 100 40"),
		"a Thick of 1001":    line(6, "batch 60 30 1001 70 50 20"),
		"a Least of 1001":    line(6, "batch 60 30 100 1001 50 20"),
		"a Polish of 101":    line(7, "batch 20 20 50 30 101 40"),
		"an Eat of 101":      line(7, "batch 20 20 50 30 10 101"),
		"nothing":            {"drum 0 known 0", "add"},
		"nothing, in an add": {"drum 0 known 0", "add 0"},
	} {
		d, e := drum.Read(sealed(lines...))
		wantError(t, name, e, api.ErrArg, d)
	}
	// 600 bytes are not too long
	head := []string{"drum 4 known 1", "add" + strings.Repeat(" 0", 100), "strip 1 1 10"}
	text := sealed(slices.Concat(head, slices.Repeat([]string{"batch 1 1 1 1 1 1"}, 20))...)
	if len(text) != 600 {
		t.Fatal(len(text))
	}
	d, e := drum.Read(text)
	wantError(t, "600 bytes", e, api.ErrArg, d)
}

// P3.9: Read has the error of the text before that of the drum.
func TestReadOfBoth(t *testing.T) {
	lines := linesD()
	lines[0] = "drum 0 known 0"
	lines[7] = "batch 20 20 50 30 10"
	d, e := drum.Read(sealed(lines...))
	wantError(t, "a wrong line of a drum that is not as defined", e, api.ErrText, d)
}
