package drill_test

import (
	"slices"
	"testing"

	"nacre/api"
	"nacre/drill"
)

// blanksBut returns all blanks but some.
func blanksBut(out ...int) []int {
	var found []int
	for before := range api.DrillBlanks {
		if !slices.Contains(out, before+1) {
			found = append(found, before+1)
		}
	}
	return found
}

// P2.6: Could returns the blanks with which a button agrees; the chapter's example among others.
func TestCould(t *testing.T) {
	for name, x := range map[string]struct {
		m    api.DrillMachine
		b    api.DrillButton
		want []int
	}{
		"r and b":                   {machineR(), buttonB(), blanksBut(2)},
		"m and b":                   {machineM(), buttonB(), blanksBut()},
		"r and d":                   {machineR(), buttonD(), blanksBut()},
		"far off":                   {machineM(), button(1, 10, 0, 18, 0), []int{12}},
		"farther off":               {machineM(), button(0, 10, 0, 18, 0), nil},
		"far off for r":             {machineR(), button(1, 10, 0, 18, 0), nil},
		"a quarter on":              {machineM(), button(0, 0, -4, 0, 4), blanksBut()},
		"off in Y":                  {machineM(), button(0, -4, 1, 4, 1), nil},
		"off in Y, with an Err":     {machineM(), button(1, -4, 1, 4, 1), blanksBut()},
		"too wide":                  {machineM(), button(0, -4, 0, 5, 0), nil},
		"too wide, with an Err":     {machineM(), button(1, -4, 0, 6, 0), blanksBut()},
		"too wide for the Err":      {machineM(), button(1, -4, 0, 7, 0), nil},
		"far from all that is made": {machineM(), button(4, 80, 80, -80, -80), nil},
		"two equal holes":           {machineM(), button(4, 0, 0, 0, 0), blanksBut()},
	} {
		if l, e := drill.Could(x.m, x.b); e != api.OK || !slices.Equal(l, x.want) {
			t.Errorf("%s: %v, error %d, want %v", name, l, e, x.want)
		}
	}
}

// P2.6: Who returns the machines that have such a blank; the chapter's example among others.
func TestWho(t *testing.T) {
	m, r, far := machineM(), machineR(), button(1, 10, 0, 18, 0)
	type machines = []api.DrillMachine
	for name, x := range map[string]struct {
		l    machines
		b    api.DrillButton
		want []int
	}{
		"m and r":     {machines{m, r}, buttonD(), []int{0, 1}},
		"m alone":     {machines{m, r}, far, []int{0}},
		"the third":   {machines{r, r, m, r}, far, []int{2}},
		"nobody":      {machines{r}, far, nil},
		"all of four": {machines{m, m, m, m}, far, []int{0, 1, 2, 3}},
	} {
		if l, e := drill.Who(x.l, x.b); e != api.OK || !slices.Equal(l, x.want) {
			t.Errorf("%s: %v, error %d, want %v", name, l, e, x.want)
		}
	}
	three := m
	three.Stops = points(-4, 0, 4, 0, 0, 3)
	bad := m
	bad.WearX = span(0, 3)
	for name, l := range map[string]machines{
		"no machines":                         nil,
		"5 machines":                          slices.Repeat(machines{m}, 5),
		"5 machines, torn":                    slices.Repeat(machines{torn()}, 5),
		"3 stops":                             {m, three},
		"not as defined":                      {bad},
		"not as defined, behind one torn":     {torn(), bad},
		"3 stops, behind one that is torn":    {torn(), three},
		"not as defined, before one torn":     {bad, torn()},
		"the last of four is not as defined":  {m, r, m, bad},
		"3 stops, though nothing else agrees": {three, three},
	} {
		got, e := drill.Who(l, buttonD())
		wantError(t, name, e, api.ErrArg, got)
	}
	for name, l := range map[string]machines{"torn": {torn()}, "torn at the end": {m, r, m, torn()}, "torn in front": {torn(), m}} {
		got, e := drill.Who(l, buttonD())
		wantError(t, name, e, api.ErrRule, got)
	}
}

// P2.6 to P2.8: what is asked of buttons has ErrArg for buttons and blanks that are not as defined, also with a machine that is not possible.
func TestBadButtons(t *testing.T) {
	for _, m := range []api.DrillMachine{machineM(), torn()} {
		for name, b := range badButtons() {
			l, e := drill.Could(m, b)
			wantError(t, "Could, "+name, e, api.ErrArg, l)
			l, e = drill.Who([]api.DrillMachine{m}, b)
			wantError(t, "Who, "+name, e, api.ErrArg, l)
			l, e = drill.Together(m, []api.DrillButton{buttonD(), b})
			wantError(t, "Together, "+name, e, api.ErrArg, l)
			x, y, e := drill.Proves(m, b, 1, 1)
			wantError(t, "Proves, "+name, e, api.ErrArg, x, y)
		}
		for name, l := range map[string][]api.DrillButton{"no buttons": nil, "4 buttons": slices.Repeat([]api.DrillButton{buttonD()}, 4)} {
			got, e := drill.Together(m, l)
			wantError(t, name, e, api.ErrArg, got)
		}
		for name, n := range map[string][2]int{"at 0": {0, 1}, "at -1": {-1, 1}, "at 13": {13, 1}, "of -1": {1, -1}, "of 13": {1, 13}, "at far": {1 << 62, 0}, "of far": {1, -1 << 63}} {
			x, y, e := drill.Proves(m, buttonD(), n[0], n[1])
			wantError(t, "Proves "+name, e, api.ErrArg, x, y)
		}
	}
}

// agreeing returns by which points a machine can be off so that a button agrees, of those of a blank.
func agreeing(m api.DrillMachine, b api.DrillButton, offs []api.DrillPoint) map[api.DrillPoint]bool {
	found := map[api.DrillPoint]bool{}
	for _, off := range offs {
		if agrees(m, b, off) {
			found[off] = true
		}
	}
	return found
}

// couldBe returns the blanks with which a button agrees in some truth, by the definition.
func couldBe(m api.DrillMachine, b api.DrillButton, all truths) []int {
	var found []int
	for before := range api.DrillBlanks {
		if len(agreeing(m, b, all.offsAt(before+1))) > 0 {
			found = append(found, before+1)
		}
	}
	return found
}

// buttonsOf returns so many buttons by chance, with an Err of at most as much as that, that agree with blanks of a truth, or nearly so.
func buttonsOf(d *dice, m api.DrillMachine, x api.DrillTruth, many, most int) []api.DrillButton {
	var l []api.DrillButton
	for range many {
		blank := d.from(1, 12)
		b := buttonOf(d, shifted(m.Stops, x.X[blank], x.Y[blank]), most)
		if d.upTo(4) == 0 {
			b.Holes[0] = point(near(d, b.Holes[0].X), near(d, b.Holes[0].Y))
		}
		l = append(l, b)
	}
	return l
}

// P2.6: Could and Who return just the blanks and machines that the definition gives, over all truths.
func TestCouldOfAllTruths(t *testing.T) {
	d := dice(21)
	lengths, nobody := map[int]bool{}, 0
	for range 100 {
		stops := d.from(2, 3)
		var l []api.DrillMachine
		var x api.DrillTruth
		for range d.from(1, 4) {
			var m api.DrillMachine
			m, x = machineBy(&d, stops, 2, 1)
			l = append(l, m)
		}
		b := buttonsOf(&d, l[len(l)-1], x, 1, api.DrillErr)[0]
		if d.upTo(3) == 0 {
			// the same stops for all, so that several machines can have drilled it
			for i := range l {
				l[i].Stops = l[len(l)-1].Stops
			}
		}
		var who []int
		for i, m := range l {
			want := couldBe(m, b, allTruths(m))
			if got, e := drill.Could(m, b); e != api.OK || !slices.Equal(got, want) {
				t.Errorf("%v, %v: %v, error %d, want %v", m, b, got, e, want)
			}
			if len(want) > 0 {
				who = append(who, i)
			}
			lengths[len(want)] = true
		}
		if got, e := drill.Who(l, b); e != api.OK || !slices.Equal(got, who) {
			t.Errorf("%v, %v: Who %v, error %d, want %v", l, b, got, e, who)
		}
		if len(who) == 0 {
			nobody++
		}
	}
	if len(lengths) < 6 || nobody < 5 {
		t.Errorf("too few kinds of buttons: %v blanks, nobody %d times", lengths, nobody)
	}
}

// P2.6: a button that a machine drilled, however it lies, and if it is read within its Err, is among those that it can have drilled, at its blank.
func TestCouldOfDrilled(t *testing.T) {
	d := dice(22)
	for range 300 {
		m, x := machineBy(&d, d.from(2, 4), api.DrillWide, api.DrillWander)
		blank := d.from(1, 12)
		holes, e := drill.Holes(m, x, blank)
		if e != api.OK {
			t.Fatal(m, x, blank, e)
		}
		b := buttonOf(&d, holes, api.DrillErr)
		if l, e := drill.Could(m, b); e != api.OK || !slices.Contains(l, blank) {
			t.Errorf("%v drilled %v as the blank %d: %v, error %d", m, b, blank, l, e)
		}
		if l, e := drill.Who([]api.DrillMachine{m, m}, b); e != api.OK || !slices.Equal(l, []int{0, 1}) {
			t.Errorf("%v drilled %v: %v, error %d", m, b, l, e)
		}
	}
}

// P2.7: Together returns the first blanks; the chapter's example among others.
func TestTogether(t *testing.T) {
	m, r, b, d, far := machineM(), machineR(), buttonB(), buttonD(), button(1, 10, 0, 18, 0)
	// so it is off by 0 at 0 and by 12 at 12
	sure := machineM(reading(0, 0, 0, 0), reading(12, 12, 0, 0))
	// off by -2, it comes to -1, but to 2 much later; off by 2, it comes to 2, but not to 1 or -1 before
	wide := machineM()
	wide.ChuckX = span(-3, 3)
	at := func(x int) api.DrillButton { return button(0, x-4, 0, x+4, 0) }
	type buttons = []api.DrillButton
	for name, x := range map[string]struct {
		m    api.DrillMachine
		l    buttons
		want []int
	}{
		"b and d":               {r, buttons{b, d}, []int{1, 2}},
		"d and b":               {r, buttons{d, b}, []int{1, 3}},
		"b":                     {r, buttons{b}, []int{1}},
		"b twice":               {r, buttons{b, b}, []int{1, 3}},
		"d three times":         {m, buttons{d, d, d}, []int{1, 2, 3}},
		"back from later":       {sure, buttons{at(7), at(3)}, []int{7, 3}},
		"three in no order":     {sure, buttons{at(12), at(1), at(5)}, []int{12, 1, 5}},
		"time for the way":      {m, buttons{at(1), at(8)}, []int{1, 8}},
		"time before the way":   {m, buttons{at(9), at(2)}, []int{8, 1}},
		"mirrored":              {m, buttons{at(1), at(-1)}, []int{1, 2}},
		"one way for all three": {wide, buttons{at(2), at(1), at(2)}, []int{1, 2, 5}},
		"time for two":          {m, buttons{at(12), at(12)}, []int{11, 12}},
	} {
		if l, e := drill.Together(x.m, x.l); e != api.OK || !slices.Equal(l, x.want) {
			t.Errorf("%s: %v, error %d, want %v", name, l, e, x.want)
		}
	}
	for name, x := range map[string]struct {
		m api.DrillMachine
		l buttons
	}{
		"d and one far off":     {m, buttons{d, far}},
		"two far off":           {m, buttons{far, far}},
		"one that is nobody's":  {m, buttons{d, button(0, 0, 0, 0, 0)}},
		"one of one blank":      {sure, buttons{at(7), at(7)}},
		"no time for three":     {m, buttons{at(12), at(12), at(12)}},
		"the first is nobody's": {r, buttons{at(-12), d, d}},
	} {
		l, e := drill.Together(x.m, x.l)
		wantError(t, name, e, api.ErrNone, l)
	}
}

// inOneTruth reports whether in one truth each button agrees with its blank, by trying all truths.
func inOneTruth(all truths, good []map[api.DrillPoint]bool, blanks []int) bool {
	for _, x := range valuesAt(all.x, blanks...) {
		for _, y := range valuesAt(all.y, blanks...) {
			fits := true
			for i := range blanks {
				fits = fits && good[i][point(x[i], y[i])]
			}
			if fits {
				return true
			}
		}
	}
	return false
}

// firstBlanks returns the first blanks, no two the same, with which buttons agree in one truth, by trying all of them.
func firstBlanks(m api.DrillMachine, l []api.DrillButton, all truths) ([]int, bool) {
	var good []map[api.DrillPoint]bool
	var could [][]int
	for _, b := range l {
		found := map[api.DrillPoint]bool{}
		for before := range api.DrillBlanks {
			for off := range agreeing(m, b, all.offsAt(before+1)) {
				found[off] = true
			}
		}
		good = append(good, found)
		could = append(could, couldBe(m, b, all))
	}
	lists := [][]int{nil}
	for _, blanks := range could {
		var longer [][]int
		for _, before := range lists {
			for _, blank := range blanks {
				if !slices.Contains(before, blank) {
					longer = append(longer, append(slices.Clone(before), blank))
				}
			}
		}
		lists = longer
	}
	for _, blanks := range lists {
		if inOneTruth(all, good, blanks) {
			return blanks, true
		}
	}
	return nil, false
}

// P2.7: no list of blanks, with a truth in which each button agrees with its blank, comes before that of Together.
func TestTogetherIsFirst(t *testing.T) {
	d := dice(23)
	none, turned, late := 0, 0, 0
	for range 150 {
		m, x := machineBy(&d, d.from(2, 3), 1, 1)
		if d.upTo(1) == 0 {
			m.WearY, m.ChuckY = span(0, 0), span(x.Y[0], x.Y[0])
			x.Y = slices.Repeat([]int{x.Y[0]}, 13)
			m.Readings = nil
			// so that a button that lies turned is another one
			m.Stops = points(-3, x.Y[0], 3, x.Y[0])
		}
		l := buttonsOf(&d, m, x, d.from(1, 3), 1)
		want, ok := firstBlanks(m, l, allTruths(m))
		got, e := drill.Together(m, l)
		if !ok {
			wantError(t, "buttons that do not go together", e, api.ErrNone, got)
			none++
			continue
		}
		if e != api.OK || !slices.Equal(got, want) {
			t.Errorf("%v, %v: %v, error %d, want %v", m, l, got, e, want)
		}
		if !slices.IsSorted(want) {
			turned++
		}
		if slices.Max(want) > len(want) {
			late++
		}
	}
	if none < 20 || turned < 5 || late < 20 {
		t.Errorf("too few kinds of buttons: none %d times, not sorted %d times, late %d times", none, turned, late)
	}
}

// P2.7: buttons that a machine drilled go together, and not after the blanks that they were.
func TestTogetherOfDrilled(t *testing.T) {
	d := dice(24)
	for range 200 {
		m, x := machineBy(&d, d.from(2, 4), api.DrillWide, api.DrillWander)
		var l []api.DrillButton
		var blanks []int
		for range d.from(1, 3) {
			blank := d.from(1, 12)
			if slices.Contains(blanks, blank) {
				continue
			}
			blanks = append(blanks, blank)
			l = append(l, buttonOf(&d, shifted(m.Stops, x.X[blank], x.Y[blank]), api.DrillErr))
		}
		got, e := drill.Together(m, l)
		if e != api.OK || len(got) != len(l) || slices.Compare(got, blanks) > 0 {
			t.Errorf("%v drilled %v as %v: %v, error %d", m, l, blanks, got, e)
		}
	}
}

// P2.8: Proves returns the bounds if a button agrees with a blank; the chapter's examples among others.
func TestProves(t *testing.T) {
	m, r := machineM(), machineR()
	sinking := machineM()
	sinking.WearY = span(-1, 0)
	for name, x := range map[string]struct {
		m         api.DrillMachine
		b         api.DrillButton
		at, blank int
		x, y      api.Span
	}{
		"r, 1, 0":           {r, buttonB(), 1, 0, span(-1, -1), span(0, 0)},
		"r, 1, 3":           {r, buttonB(), 1, 3, span(0, 1), span(0, 0)},
		"r, 3, 1":           {r, buttonB(), 3, 1, span(-1, 0), span(0, 0)},
		"m, 1, 1":           {m, buttonB(), 1, 1, span(-1, 1), span(0, 0)},
		"m, 1, 5":           {m, buttonB(), 1, 5, span(-1, 5), span(0, 0)},
		"m, 12, 0":          {m, buttonB(), 12, 0, span(-1, 1), span(0, 0)},
		"d, 5, 5":           {m, buttonD(), 5, 5, span(0, 0), span(0, 0)},
		"d, 5, 0":           {m, buttonD(), 5, 0, span(-1, 0), span(0, 0)},
		"d, 5, 12":          {m, buttonD(), 5, 12, span(0, 7), span(0, 0)},
		"d by 1, 5, 5":      {m, button(1, -4, 0, 4, 0), 5, 5, span(-1, 1), span(0, 0)},
		"in Y, 6, 6":        {sinking, button(0, -4, -2, 4, -2), 6, 6, span(0, 0), span(-2, -2)},
		"in Y, 6, 1":        {sinking, button(0, -4, -2, 4, -2), 6, 1, span(-1, 0), span(-1, 0)},
		"turned, in Y, 6":   {sinking, button(0, -4, 2, 4, 2), 6, 6, span(0, 0), span(-2, -2)},
		"a quarter on, 6 6": {sinking, button(0, 3, -4, 3, 4), 6, 6, span(0, 0), span(-3, -3)},
	} {
		if a, b, e := drill.Proves(x.m, x.b, x.at, x.blank); e != api.OK || a != x.x || b != x.y {
			t.Errorf("%s: %v %v, error %d, want %v %v", name, a, b, e, x.x, x.y)
		}
	}
	for name, x := range map[string]struct {
		m  api.DrillMachine
		b  api.DrillButton
		at int
	}{
		"a blank that was read":   {r, buttonB(), 2},
		"one that is too early":   {m, button(1, 10, 0, 18, 0), 11},
		"a button that is no one": {m, button(0, 0, 0, 0, 0), 1},
		"a machine that is torn":  {torn(), buttonB(), 1},
	} {
		a, b, e := drill.Proves(x.m, x.b, x.at, 0)
		wantError(t, name, e, api.ErrRule, a, b)
	}
}

// provedSpans returns the bounds at a blank of all truths in which a button agrees with another one, by trying all of them.
func provedSpans(m api.DrillMachine, b api.DrillButton, all truths, at, blank int) (api.Span, api.Span, bool) {
	good := agreeing(m, b, all.offsAt(at))
	some := func(mine [][]int, theirs [][]int, join func(n, other int) api.DrillPoint) [][]int {
		others := valuesAt(theirs, at)
		return slices.DeleteFunc(slices.Clone(mine), func(walk []int) bool {
			return !slices.ContainsFunc(others, func(other [3]int) bool { return good[join(walk[at], other[0])] })
		})
	}
	x := some(all.x, all.y, func(n, other int) api.DrillPoint { return point(n, other) })
	y := some(all.y, all.x, func(n, other int) api.DrillPoint { return point(other, n) })
	if len(x) == 0 || len(y) == 0 {
		return api.Span{}, api.Span{}, false
	}
	return spanAt(x, blank), spanAt(y, blank), true
}

// P2.8: the bounds are those of all truths in which the button agrees with its blank.
func TestProvesOfAllTruths(t *testing.T) {
	d := dice(25)
	none, narrower := 0, 0
	for range 200 {
		m, x := machineBy(&d, d.from(2, 3), 2, 1)
		b := buttonsOf(&d, m, x, 1, api.DrillErr)[0]
		all := allTruths(m)
		for range 6 {
			at, blank := d.from(1, 12), d.upTo(12)
			wantX, wantY, ok := provedSpans(m, b, all, at, blank)
			gotX, gotY, e := drill.Proves(m, b, at, blank)
			if !ok {
				wantError(t, "a button that does not agree", e, api.ErrRule, gotX, gotY)
				none++
				continue
			}
			if e != api.OK || gotX != wantX || gotY != wantY {
				t.Errorf("%v, %v, %d, %d: %v %v, error %d, want %v %v", m, b, at, blank, gotX, gotY, e, wantX, wantY)
			}
			if gotX != spanAt(all.x, blank) || gotY != spanAt(all.y, blank) {
				narrower++
			}
		}
	}
	if none < 50 || narrower < 50 {
		t.Errorf("too few kinds of buttons: none %d times, narrower %d times", none, narrower)
	}
}

// P2.8: whatever is true, if the button agrees with its blank, the machine is off by a number between the bounds.
func TestProvesOfDrilled(t *testing.T) {
	d := dice(26)
	for range 300 {
		m, truth := machineBy(&d, d.from(2, 4), api.DrillWide, api.DrillWander)
		at, blank := d.from(1, 12), d.upTo(12)
		b := buttonOf(&d, shifted(m.Stops, truth.X[at], truth.Y[at]), api.DrillErr)
		x, y, e := drill.Proves(m, b, at, blank)
		if e != api.OK || truth.X[blank] < x.Low || truth.X[blank] > x.High || truth.Y[blank] < y.Low || truth.Y[blank] > y.High {
			t.Errorf("%v, %v at %d: off by %v %v at %d, error %d, but %v is a truth", m, b, at, x, y, blank, e, truth)
		}
	}
}
