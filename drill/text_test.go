package drill_test

import (
	"slices"
	"strings"
	"testing"

	"nacre/api"
	"nacre/drill"
)

const textM = "machine 2 0\nstop -4 0\nstop 4 0\nchuck -1 1 0 0\nwear 0 1 0 0\nend 059\n"

// linesM returns the lines of the text of m, without the last one.
func linesM() []string {
	return []string{"machine 2 0", "stop -4 0", "stop 4 0", "chuck -1 1 0 0", "wear 0 1 0 0"}
}

// full returns a machine with the longest text that there is.
func full() api.DrillMachine {
	return api.DrillMachine{
		Stops:    slices.Repeat(points(-20, -20), 4),
		ChuckX:   span(-12, -10),
		ChuckY:   span(-12, -12),
		WearX:    span(-3, -1),
		WearY:    span(-3, -3),
		Readings: slices.Repeat([]api.DrillReading{reading(12, -80, -80, 4)}, 4),
	}
}

// P2.10: Print returns the text of a machine; the chapter's example among others.
func TestPrint(t *testing.T) {
	if text, e := drill.Print(machineM()); e != api.OK || text != textM {
		t.Errorf("%q, error %d", text, e)
	}
	two := torn()
	two.Readings = append(two.Readings, reading(12, -80, 10, 4))
	two.Stops = append(two.Stops, point(20, -20))
	two.WearY = span(-2, -1)
	want := sealed("machine 3 2", "stop -4 0", "stop 4 0", "stop 20 -20", "chuck -1 1 0 0", "wear 0 1 -2 -1", "reading 0 5 0 0", "reading 12 -80 10 4")
	if text, e := drill.Print(two); e != api.OK || text != want {
		t.Errorf("a machine that is not possible: %q, error %d, want %q", text, e, want)
	}
	for name, change := range badMachines() {
		text, e := drill.Print(badMachine(change))
		wantError(t, name, e, api.ErrArg, text)
	}
}

// P2.10 and P0.11: what was written is read as what was written, also of a machine that is not possible.
func TestReadOfPrint(t *testing.T) {
	machines := []api.DrillMachine{machineM(), machineR(), torn(), full()}
	d := dice(31)
	for range 300 {
		m, _ := machineBy(&d, d.from(2, 4), api.DrillWide, api.DrillWander)
		if d.upTo(1) == 0 {
			m.Readings = append(m.Readings[:min(len(m.Readings), 3)], reading(d.upTo(12), d.from(-80, 80), d.from(-80, 80), d.upTo(4)))
		}
		machines = append(machines, m)
	}
	for _, m := range machines {
		text, e := drill.Print(m)
		if e != api.OK || len(text) > api.DrillText {
			t.Fatalf("%v: %q, error %d", m, text, e)
		}
		got, e := drill.Read(text)
		if e != api.OK || !sameMachine(got, m) {
			t.Fatalf("%q: %v, error %d, want %v", text, got, e, m)
		}
		if again, e := drill.Print(got); e != api.OK || again != text {
			t.Fatalf("%q: written again %q, error %d", text, again, e)
		}
	}
}

// P2.10: a text in which one digit was changed to another one is not read.
func TestReadOfChangedDigits(t *testing.T) {
	for _, m := range []api.DrillMachine{machineM(), machineR(), full()} {
		text, e := drill.Print(m)
		if e != api.OK {
			t.Fatal(m, e)
		}
		for i := range len(text) {
			if text[i] < '0' || text[i] > '9' {
				continue
			}
			for digit := byte('0'); digit <= '9'; digit++ {
				if digit == text[i] {
					continue
				}
				m, e := drill.Read(text[:i] + string(digit) + text[i+1:])
				wantError(t, "a digit was changed", e, api.ErrText, m)
			}
		}
	}
}

// P2.10: Read returns ErrText for lines that have not the form, though the CHECK is right.
func TestReadOfWrongLines(t *testing.T) {
	for name, x := range map[string]struct {
		line int
		text string
	}{
		"another word":            {1, "step -4 0"},
		"a capital":               {1, "Stop -4 0"},
		"no word":                 {1, "-4 0"},
		"two blanks":              {1, "stop -4  0"},
		"a blank in front":        {1, " stop -4 0"},
		"a blank behind":          {1, "stop -4 0 "},
		"a tab":                   {1, "stop\t-4 0"},
		"a carriage return":       {1, "stop -4 0\r"},
		"a number less":           {1, "stop -4"},
		"a number more":           {1, "stop -4 0 0"},
		"no numbers":              {1, "stop"},
		"an empty line":           {1, ""},
		"a leading zero":          {1, "stop -04 0"},
		"two zeros":               {1, "stop -4 00"},
		"less than 0, but not":    {1, "stop -4 -0"},
		"two signs":               {1, "stop --4 0"},
		"a sign of its own":       {1, "stop -4 +0"},
		"a plus":                  {1, "stop +4 0"},
		"a sign alone":            {1, "stop - 0"},
		"a sign behind":           {1, "stop 4- 0"},
		"3 digits":                {1, "stop -4 100"},
		"3 digits below 0":        {1, "stop -100 0"},
		"3 digits with a zero":    {1, "stop 004 0"},
		"a letter":                {1, "stop -4 x"},
		"a letter behind":         {1, "stop -4 1x"},
		"near the digits":         {1, "stop -4 :"},
		"near the digits too":     {1, "stop -4 /"},
		"a digit of another kind": {1, "stop -4 \u0663"},
		"a byte of no kind":       {1, "stop -4 \xff"},
		"a fraction":              {1, "stop -4 .5"},
		"a chuck of 3 numbers":    {3, "chuck -1 1 0"},
		"a chuck of 5 numbers":    {3, "chuck -1 1 0 0 0"},
		"a chuck with a dash":     {3, "chuck -1-1 0 0"},
		"a wear of 3 numbers":     {4, "wear 0 1 0"},
		"wear for the chuck":      {3, "wear 0 1 0 0"},
		"chuck for the wear":      {4, "chuck -1 1 0 0"},
		"a head of one number":    {0, "machine 2"},
		"a head of 3 numbers":     {0, "machine 2 0 0"},
		"no head":                 {0, "stop 2 0"},
		"one stop more":           {0, "machine 1 0"},
		"one stop less":           {0, "machine 3 0"},
		"one reading less":        {0, "machine 2 1"},
		"far too few stops":       {0, "machine 99 0"},
		"far too few readings":    {0, "machine 2 99"},
		"stops below 0":           {0, "machine -1 0"},
		"readings below 0":        {0, "machine 2 -1"},
		"3 digits of stops":       {0, "machine 002 0"},
	} {
		lines := linesM()
		lines[x.line] = x.text
		m, e := drill.Read(sealed(lines...))
		wantError(t, name, e, api.ErrText, m)
	}
}

// P2.10: Read returns ErrText for lines that are missing, too many or in no order, though the CHECK is right.
func TestReadOfWrongOrders(t *testing.T) {
	l := linesM()
	for name, lines := range map[string][]string{
		"no lines":                 {},
		"an empty line":            {""},
		"a head alone":             l[:1],
		"a head of nothing alone":  {"machine 0 0"},
		"stops below 0, and none":  slices.Concat([]string{"machine -1 0"}, l[3:]),
		"no wear":                  l[:4],
		"no chuck":                 slices.Concat(l[:3], l[4:]),
		"wear before chuck":        slices.Concat(l[:3], l[4:], l[3:4]),
		"chuck before stops":       slices.Concat(l[:1], l[3:4], l[1:3], l[4:]),
		"two wears":                slices.Concat(l, l[4:]),
		"a stop behind":            slices.Concat(l, l[1:2]),
		"a reading behind":         slices.Concat(l, []string{"reading 2 0 0 0"}),
		"a reading in front":       slices.Concat([]string{"machine 2 1"}, l[1:3], []string{"reading 2 0 0 0"}, l[3:]),
		"a short reading":          slices.Concat([]string{"machine 2 1"}, l[1:], []string{"reading 2 0 0"}),
		"a long reading":           slices.Concat([]string{"machine 2 1"}, l[1:], []string{"reading 2 0 0 0 0"}),
		"a reading with 3 digits":  slices.Concat([]string{"machine 2 1"}, l[1:], []string{"reading 2 100 0 0"}),
		"an empty line in front":   slices.Concat([]string{""}, l),
		"an empty line behind":     slices.Concat(l, []string{""}),
		"a second text":            slices.Concat(l, l),
		"an end, and then another": slices.Concat(l, []string{"end 059"}),
		"no stops, and no wear":    {"machine 0 0", "chuck 0 0 0 0"},
	} {
		m, e := drill.Read(sealed(lines...))
		wantError(t, name, e, api.ErrText, m)
	}
}

// P2.10: Read returns ErrText for another end or CHECK, and ErrLong for more than 300 bytes, before all else.
func TestReadOfWrongEnds(t *testing.T) {
	for name, text := range map[string]string{
		"nothing":              "",
		"a line feed":          "\n",
		"line feeds":           "\n\n\n",
		"no end":               strings.Join(linesM(), "\n") + "\n",
		"an end alone":         "end 000\n",
		"no line feed":         strings.TrimSuffix(textM, "\n"),
		"a line feed more":     textM + "\n",
		"something behind":     textM + "x",
		"a line behind":        textM + "stop 0 0\n",
		"a byte less":          textM[1:],
		"another CHECK":        strings.Replace(textM, "059", "060", 1),
		"a CHECK above 127":    strings.Replace(textM, "059", "186", 1),
		"a CHECK of 2 digits":  strings.Replace(textM, "059", "59", 1),
		"a CHECK of 4 digits":  strings.Replace(textM, "059", "0059", 1),
		"no CHECK":             strings.Replace(textM, " 059", "", 1),
		"two blanks before it": strings.Replace(textM, " 059", "  059", 1),
		"another end":          strings.Replace(textM, "end", "End", 1),
		"carriage returns":     strings.ReplaceAll(textM, "\n", "\r\n"),
		"two stops changed":    strings.Replace(textM, "stop -4 0\nstop 4 0", "stop 4 0\nstop -4 0", 1),
		"300 bytes":            strings.Repeat("x", 300),
		"300 line feeds":       strings.Repeat("\n", 300),
	} {
		m, e := drill.Read(text)
		wantError(t, name, e, api.ErrText, m)
	}
	long := sealed(slices.Concat([]string{"machine 29 0"}, slices.Repeat([]string{"stop 0 0"}, 29), linesM()[3:])...)
	for name, text := range map[string]string{
		"301 bytes":   strings.Repeat("x", 301),
		"a long text": long,
		"much":        strings.Repeat(textM, 10000),
	} {
		m, e := drill.Read(text)
		wantError(t, name, e, api.ErrLong, m)
	}
}

// P2.10: Read returns ErrArg for the text of a machine that is not as defined.
func TestReadOfBadMachines(t *testing.T) {
	rest := linesM()[3:]
	stops := func(many string, stops ...string) []string {
		return slices.Concat([]string{"machine " + many + " 0"}, stops, rest)
	}
	readings := func(many string, readings ...string) []string {
		return slices.Concat([]string{"machine 2 " + many}, linesM()[1:], readings)
	}
	spans := func(chuck, wear string) []string { return slices.Concat(linesM()[:3], []string{chuck, wear}) }
	for name, lines := range map[string][]string{
		"no stops":             stops("0"),
		"one stop":             stops("1", "stop 0 0"),
		"5 stops":              stops("5", slices.Repeat([]string{"stop 0 0"}, 5)...),
		"25 stops":             stops("25", slices.Repeat([]string{"stop 0 0"}, 25)...),
		"a stop at 21":         stops("2", "stop 0 0", "stop 21 0"),
		"a stop at -99":        stops("2", "stop 0 -99", "stop 0 0"),
		"5 readings":           readings("5", slices.Repeat([]string{"reading 0 0 0 0"}, 5)...),
		"a reading at 13":      readings("1", "reading 13 0 0 0"),
		"a reading at -1":      readings("1", "reading -1 0 0 0"),
		"a reading of 81":      readings("1", "reading 0 81 0 0"),
		"an Err of 5":          readings("1", "reading 0 0 0 5"),
		"an Err of -1":         readings("1", "reading 0 0 0 -1"),
		"a chuck to 13":        spans("chuck 7 13 0 0", "wear 0 0 0 0"),
		"a chuck of 7":         spans("chuck 0 0 0 7", "wear 0 0 0 0"),
		"a chuck upside down":  spans("chuck 1 0 0 0", "wear 0 0 0 0"),
		"a wear of 3":          spans("chuck 0 0 0 0", "wear 0 3 0 0"),
		"a wear from -4":       spans("chuck 0 0 0 0", "wear 0 0 -4 -3"),
		"nothing is right":     {"machine 0 1", "chuck 99 -99 99 -99", "wear 99 -99 99 -99", "reading 99 99 99 99"},
		"a wear that is to 99": spans("chuck 0 0 0 0", "wear 0 0 0 99"),
	} {
		m, e := drill.Read(sealed(lines...))
		wantError(t, name, e, api.ErrArg, m)
	}
	// 300 bytes are not too long
	text := sealed(slices.Concat([]string{"machine 26 1"}, slices.Repeat([]string{"stop 0 0"}, 26), []string{"chuck 0 0 0 0", "wear 0 0 0 0", "reading 0 0 10 10"})...)
	if len(text) != 300 {
		t.Fatal(len(text))
	}
	m, e := drill.Read(text)
	wantError(t, "300 bytes", e, api.ErrArg, m)
}
