package shell_test

import (
	"slices"
	"strings"
	"testing"

	"nacre/api"
	"nacre/shell"
)

const smallSheet = "shell 1 2 taper 2 hidden 0\n##\nend 036\n"

// P1.9: Print returns the sheet of a map; the chapter's example among others.
func TestPrint(t *testing.T) {
	small := api.ShellMap{Cells: grid("##"), Taper: 2}
	if text, e := shell.Print(small); e != api.OK || text != smallSheet {
		t.Errorf("%q, error %d", text, e)
	}
	m := exampleMap()
	m.Cracks = append(m.Cracks, down(1, 2), right(0, 0))
	want := sealed(
		"shell 3 4 taper 2 hidden 1",
		"###.",
		"#o##",
		".###",
		"gauge 0 0 12 1",
		"gauge 0 2 9 1",
		"gauge 1 3 5 1",
		"gauge 2 1 10 2",
		"gauge 2 3 8 1",
		"crack 0 0 right",
		"crack 1 2 down",
		"crack 0 0 right",
		"probe 0 0",
		"probe 1 2",
		"probe 1 3",
		"probe 2 2",
		"probe 2 3",
	)
	if text, e := shell.Print(m); e != api.OK || text != want {
		t.Errorf("%q, error %d, want %q", text, e, want)
	}
	if text, e := shell.Print(tornWork().Map); e != api.OK || !strings.HasPrefix(text, "shell 1 2 taper 2 hidden 1\n##\ngauge 0 0 4 0\ngauge 0 1 5 0\nend ") {
		t.Errorf("a map that is not possible: %q, error %d", text, e)
	}
	for name, change := range badMaps() {
		m := exampleMap()
		change(&m)
		text, e := shell.Print(m)
		wantError(t, name, e, api.ErrArg, text)
	}
}

// P1.9: what was written is read as what was written.
func TestReadOfPrint(t *testing.T) {
	full := api.ShellMap{Cells: slices.Repeat(grid("########"), 6), Taper: 9, Hidden: 3}
	full.Gauges = slices.Repeat([]api.ShellGauge{gauge(5, 7, 60, 9)}, 8)
	full.Cracks = slices.Repeat([]api.ShellCrack{right(5, 6)}, 8)
	full.Probed = slices.Repeat([]api.ShellPlace{place(5, 7)}, 12)
	maps := []api.ShellMap{exampleMap(), tornWork().Map, full, {Cells: grid(".")}}
	d := dice(13)
	for range 300 {
		m := drawn(&d, d.from(1, api.ShellRows), d.from(1, api.ShellColumns))
		measured(&d, &m, truthFor(&d, m), d.upTo(8))
		maps = append(maps, m)
	}
	for _, m := range maps {
		text, e := shell.Print(m)
		if e != api.OK || len(text) > api.ShellText {
			t.Fatalf("%v: %q, error %d", m, text, e)
		}
		got, e := shell.Read(text)
		if e != api.OK || !sameMap(got, m) {
			t.Fatalf("%q: %v, error %d, want %v", text, got, e, m)
		}
	}
}

// P1.9: one digit that was changed is noticed.
func TestReadOfChangedDigits(t *testing.T) {
	text, e := shell.Print(exampleMap())
	if e != api.OK {
		t.Fatal(e)
	}
	for _, sheet := range []string{text, smallSheet} {
		for i := range len(sheet) {
			if sheet[i] < '0' || sheet[i] > '9' {
				continue
			}
			for digit := byte('0'); digit <= '9'; digit++ {
				if digit == sheet[i] {
					continue
				}
				m, e := shell.Read(sheet[:i] + string(digit) + sheet[i+1:])
				wantError(t, "a digit was changed", e, api.ErrText, m)
			}
		}
	}
}

const smallHead = "shell 1 2 taper 2 hidden 0"

// wantNoSheets fails unless Read returns ErrText for lines that are sealed by the right CHECK.
func wantNoSheets(t *testing.T, sheets map[string][]string) {
	t.Helper()
	for name, lines := range sheets {
		m, e := shell.Read(sealed(lines...))
		wantError(t, name, e, api.ErrText, m)
	}
}

// P1.9: Read returns ErrText for a head that has not the form.
func TestReadOfWrongHeads(t *testing.T) {
	heads := map[string]string{
		"another word":            "shall 1 2 taper 2 hidden 0",
		"a capital":               "shell 1 2 Taper 2 hidden 0",
		"two blanks":              "shell 1 2 taper  2 hidden 0",
		"a blank in front":        " " + smallHead,
		"a blank behind":          smallHead + " ",
		"a word less":             "shell 1 2 taper 2 hidden",
		"a word more":             smallHead + " 0",
		"a leading zero":          "shell 1 2 taper 02 hidden 0",
		"two zeros":               "shell 1 2 taper 2 hidden 00",
		"a sign":                  "shell 1 2 taper +2 hidden 0",
		"below 0":                 "shell 1 2 taper -2 hidden 0",
		"4 digits":                "shell 1 2 taper 1000 hidden 0",
		"no digits":               "shell 1 2 taper x hidden 0",
		"no digit behind one":     "shell 1 2 taper 2x hidden 0",
		"no digit, but near":      "shell 1 2 taper : hidden 0",
		"no digit, but near it":   "shell 1 2 taper / hidden 0",
		"a digit of another kind": "shell 1 2 taper \u0663 hidden 0",
		"a byte of no kind":       "shell 1 2 taper \xff hidden 0",
		"no number":               "shell 1 2 taper  hidden 0",
		"a tab":                   "shell\t1 2 taper 2 hidden 0",
		"a carriage return":       smallHead + "\r",
	}
	for name, head := range heads {
		wantNoSheets(t, map[string][]string{name: {head, "##"}})
	}
	wantNoSheets(t, map[string][]string{
		"no lines":               {},
		"an empty line":          {""},
		"no head":                {"##"},
		"an empty line in front": {"", smallHead, "##"},
	})
}

// P1.9: Read returns ErrText for rows that are not as many or not as long as the head says, or with other bytes.
func TestReadOfWrongRows(t *testing.T) {
	wantNoSheets(t, map[string][]string{
		"a row less":              {smallHead},
		"two rows less":           {"shell 3 2 taper 2 hidden 0", "##"},
		"far too few rows":        {"shell 999 2 taper 2 hidden 0", "##"},
		"far too few empty rows":  {"shell 999 0 taper 2 hidden 0", "", ""},
		"rows that are no rows":   {"shell 2 2 taper 2 hidden 0", "##", "probe 0 0"},
		"a row more":              {smallHead, "##", "##"},
		"a short row":             {smallHead, "#"},
		"a long row":              {smallHead, "###"},
		"an empty row":            {smallHead, ""},
		"a row after a short one": {"shell 2 2 taper 2 hidden 0", "#", "##"},
		"a strange cell":          {smallHead, "#x"},
		"a capital worm":          {smallHead, "#O"},
		"a cell of no kind":       {smallHead, "#\xff"},
		"a row of columns 0":      {"shell 1 0 taper 2 hidden 0", "#"},
		"one column, no rows":     {"shell 0 1 taper 2 hidden 0"},
		"columns without rows":    {"shell 0 2 taper 2 hidden 0"},
		"an empty line more":      {smallHead, "##", ""},
	})
}

// P1.9: Read returns ErrText for gauges, cracks and probed places that have not the form, or are in no order.
func TestReadOfWrongLists(t *testing.T) {
	lists := map[string][]string{
		"cracks before gauges":  {"crack 0 0 right", "gauge 0 0 5 1"},
		"probes before gauges":  {"probe 0 0", "gauge 0 0 5 1"},
		"probes before cracks":  {"probe 0 0", "crack 0 0 right"},
		"gauges apart":          {"gauge 0 0 5 1", "probe 0 0", "gauge 0 0 5 1"},
		"a short gauge":         {"gauge 0 0 5"},
		"a long gauge":          {"gauge 0 0 5 1 1"},
		"a gauge below 0":       {"gauge 0 0 -5 1"},
		"a crack left":          {"crack 0 1 left"},
		"a crack without a way": {"crack 0 0"},
		"a crack with two ways": {"crack 0 0 right down"},
		"a short probe":         {"probe 0"},
		"a long probe":          {"probe 0 0 0"},
		"another line":          {"tube 1 2 3"},
		"two ends":              {"end 036"},
	}
	for name, lines := range lists {
		wantNoSheets(t, map[string][]string{name: slices.Concat([]string{smallHead, "##"}, lines)})
	}
	wantNoSheets(t, map[string][]string{"a gauge before rows": {smallHead, "gauge 0 0 5 1", "##"}})
}

// P1.9: Read returns ErrText for another end or CHECK, and ErrLong for more than 600 bytes.
func TestReadOfWrongEnds(t *testing.T) {
	for name, text := range map[string]string{
		"nothing":              "",
		"a line feed":          "\n",
		"line feeds":           "\n\n\n",
		"no end":               "shell 1 2 taper 2 hidden 0\n##\n",
		"an end alone":         "end 000\n",
		"no line feed":         strings.TrimSuffix(smallSheet, "\n"),
		"a line feed more":     smallSheet + "\n",
		"something behind":     smallSheet + "x",
		"a line behind":        smallSheet + "probe 0 0\n",
		"a byte less":          smallSheet[1:],
		"another CHECK":        strings.Replace(smallSheet, "036", "037", 1),
		"a CHECK above 101":    strings.Replace(smallSheet, "036", "137", 1),
		"a CHECK of 2 digits":  strings.Replace(smallSheet, "036", "36", 1),
		"a CHECK of 4 digits":  strings.Replace(smallSheet, "036", "0036", 1),
		"no CHECK":             strings.Replace(smallSheet, " 036", "", 1),
		"two blanks before it": strings.Replace(smallSheet, " 036", "  036", 1),
		"another end":          strings.Replace(smallSheet, "end", "End", 1),
		"carriage returns":     strings.ReplaceAll(smallSheet, "\n", "\r\n"),
		"600 bytes":            strings.Repeat("x", 600),
	} {
		m, e := shell.Read(text)
		wantError(t, name, e, api.ErrText, m)
	}
	for name, text := range map[string]string{
		"601 bytes":    strings.Repeat("x", 601),
		"a long sheet": sealed("shell 600 0 taper 0 hidden 0", strings.Repeat("\n", 599)),
	} {
		m, e := shell.Read(text)
		wantError(t, name, e, api.ErrLong, m)
	}
}

// P1.9: Read returns ErrArg for the sheet of a map that is not as defined.
func TestReadOfBadMaps(t *testing.T) {
	for name, lines := range map[string][]string{
		"no rows":           {"shell 0 0 taper 2 hidden 0"},
		"no rows, but more": {"shell 0 0 taper 2 hidden 0", "gauge 0 0 5 1", "crack 0 0 down", "probe 0 0"},
		"rows of no cells":  {"shell 2 0 taper 2 hidden 0", "", ""},
		"many empty rows":   slices.Concat([]string{"shell 500 0 taper 2 hidden 0"}, slices.Repeat([]string{""}, 500)),
		"7 rows":            slices.Concat([]string{"shell 7 1 taper 2 hidden 0"}, slices.Repeat([]string{"#"}, 7)),
		"9 columns":         {"shell 1 9 taper 2 hidden 0", "#########"},
		"120 columns":       {"shell 1 120 taper 2 hidden 0", strings.Repeat("#", 120)},
		"taper 10":          {"shell 1 2 taper 10 hidden 0", "##"},
		"taper 999":         {"shell 1 2 taper 999 hidden 0", "##"},
		"hidden 4":          {"shell 1 2 taper 2 hidden 4", "##"},
		"a gauge seen 61":   {smallHead, "##", "gauge 0 0 61 1"},
		"a gauge far off":   {smallHead, "##", "gauge 999 999 5 1"},
		"a gauge outside":   {smallHead, ".#", "gauge 0 0 5 1"},
		"9 gauges":          slices.Concat([]string{smallHead, "##"}, slices.Repeat([]string{"gauge 0 0 5 1"}, 9)),
		"a crack down":      {smallHead, "##", "crack 0 0 down"},
		"9 cracks":          slices.Concat([]string{smallHead, "##"}, slices.Repeat([]string{"crack 0 0 right"}, 9)),
		"a probe in a worm": {smallHead, "o#", "probe 0 0"},
		"13 probes":         slices.Concat([]string{smallHead, "##"}, slices.Repeat([]string{"probe 0 0"}, 13)),
	} {
		m, e := shell.Read(sealed(lines...))
		wantError(t, name, e, api.ErrArg, m)
	}
	// 600 bytes are not too long
	rows := 600 - len("shell 500 0 taper 2 hidden 0\n") - len("end 000\n")
	text := sealed(slices.Concat([]string{"shell 563 0 taper 2 hidden 0"}, slices.Repeat([]string{""}, rows))...)
	if rows != 563 || len(text) != 600 {
		t.Fatal(rows, len(text))
	}
	m, e := shell.Read(text)
	wantError(t, "600 bytes", e, api.ErrArg, m)
}
