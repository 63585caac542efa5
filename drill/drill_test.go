package drill_test

import (
	"slices"
	"testing"

	"nacre/api"
	"nacre/drill"
)

// P2.3: Machine returns ErrArg, ErrRule or OK.
func TestMachine(t *testing.T) {
	good := map[string]api.DrillMachine{
		"m":           machineM(),
		"r":           machineR(),
		"equal stops": badMachine(func(m *api.DrillMachine) { m.Stops = points(1, 1, 1, 1) }),
		"4 stops":     badMachine(func(m *api.DrillMachine) { m.Stops = points(-20, 20, 20, -20, 0, 0, 20, 20) }),
		"wide spans": badMachine(func(m *api.DrillMachine) {
			m.ChuckX, m.ChuckY, m.WearX, m.WearY = span(6, 12), span(-12, -6), span(1, 3), span(-3, -1)
		}),
		"4 readings":      machineM(reading(0, 0, 0, 4), reading(12, 4, 4, 4), reading(0, 4, -4, 4), reading(3, 1, 0, 1)),
		"a reading's end": machineM(reading(0, 5, 0, 4)),
		"the same twice":  machineM(reading(5, 2, 0, 0), reading(5, 2, 0, 0)),
		"in no order":     machineM(reading(5, 2, 0, 0), reading(1, 1, 0, 0)),
		"all the wear":    machineM(reading(0, -1, 0, 0), reading(12, 11, 0, 0)),
	}
	for name, m := range good {
		wantError(t, name, drill.Machine(m), api.OK)
	}
}

// P2.3 and others: all functions have ErrArg for a machine that is not as defined, and ErrRule for one that is not possible.
func TestBadMachines(t *testing.T) {
	for name, change := range badMachines() {
		wantErrors(t, name, badMachine(change), api.ErrArg)
	}
	for name, m := range map[string]api.DrillMachine{
		"a chuck that is elsewhere":      torn(),
		"an Err that is too small":       machineM(reading(0, 6, 0, 4)),
		"a Y that cannot be":             machineM(reading(7, 0, 1, 0)),
		"too much wear":                  machineM(reading(3, 0, 0, 0), reading(5, 3, 0, 0)),
		"wear back":                      machineM(reading(3, 2, 0, 0), reading(4, 1, 0, 0)),
		"wear back, before":              machineM(reading(4, 1, 0, 0), reading(3, 2, 0, 0)),
		"two that differ":                machineM(reading(3, 2, 0, 0), reading(3, 1, 0, 0)),
		"the most, and more":             machineM(reading(12, 14, 0, 0)),
		"readings that each are allowed": machineM(reading(2, 4, 0, 1), reading(0, -1, 0, 1)),
	} {
		wantErrors(t, name, m, api.ErrRule)
		m.Stops = slices.Concat(m.Stops, points(0, 21))
		wantErrors(t, name+", and not as defined", m, api.ErrArg)
	}
}

// exampleTruth returns a truth of the machine r.
func exampleTruth() api.DrillTruth {
	return api.DrillTruth{X: []int{-1, -1, 0, 0, 1, 1, 2, 2, 3, 3, 4, 4, 5}, Y: make([]int, 13)}
}

// with returns the example's truth with another number at a blank, in X or in Y.
func with(inY bool, blank, n int) api.DrillTruth {
	x := exampleTruth()
	if inY {
		x.Y[blank] = n
	} else {
		x.X[blank] = n
	}
	return x
}

// P2.3: Fits reports whether something is a truth.
func TestFits(t *testing.T) {
	flat := api.DrillTruth{X: slices.Repeat([]int{-1}, 13), Y: make([]int, 13)}
	for name, x := range map[string]struct {
		m    api.DrillMachine
		x    api.DrillTruth
		want bool
	}{
		"m":                      {machineM(), exampleTruth(), true},
		"r":                      {machineR(), exampleTruth(), true},
		"flat":                   {machineM(), flat, true},
		"beside the reading":     {machineR(), flat, false},
		"at the reading's end":   {machineM(reading(2, 1, 0, 2)), flat, true},
		"beyond it":              {machineM(reading(2, 2, 0, 2)), flat, false},
		"beyond it in Y":         {machineM(reading(2, -1, 3, 2)), flat, false},
		"no chuck":               {machineM(), with(false, 0, -2), false},
		"no chuck in Y":          {machineM(), with(true, 0, 1), false},
		"too much wear":          {machineM(), with(false, 12, 6), false},
		"wear back":              {machineM(), with(false, 12, 3), false},
		"wear in Y":              {machineM(), with(true, 12, 1), false},
		"80":                     {machineM(), with(false, 12, 80), false},
		"-80":                    {machineM(), with(true, 3, -80), false},
		"a machine that is torn": {torn(), exampleTruth(), false},
	} {
		if is, e := drill.Fits(x.m, x.x); e != api.OK || is != x.want {
			t.Errorf("%s: %v, error %d", name, is, e)
		}
	}
}

// badTruths returns what is no list of numbers that a truth could have.
func badTruths() map[string]api.DrillTruth {
	full := exampleTruth()
	return map[string]api.DrillTruth{
		"nothing":   {},
		"no Y":      {X: full.X},
		"no X":      {Y: full.Y},
		"short":     {X: full.X[:12], Y: full.Y},
		"short Y":   {X: full.X, Y: full.Y[:12]},
		"long":      {X: append(slices.Clone(full.X), 5), Y: full.Y},
		"long Y":    {X: full.X, Y: append(slices.Clone(full.Y), 0)},
		"81":        with(false, 12, 81),
		"-81 in Y":  with(true, 0, -81),
		"the least": with(false, 1, -1<<63),
		"the most":  with(true, 1, 1<<63-1),
	}
}

// P2.3: Fits and Holes return ErrArg for machines and truths that are not as defined.
func TestBadTruths(t *testing.T) {
	for name, x := range badTruths() {
		for _, m := range []api.DrillMachine{machineM(), torn()} {
			is, e := drill.Fits(m, x)
			wantError(t, name, e, api.ErrArg, is)
			l, e := drill.Holes(m, x, 0)
			wantError(t, name, e, api.ErrArg, l)
		}
	}
	for name, change := range badMachines() {
		is, e := drill.Fits(badMachine(change), exampleTruth())
		wantError(t, name, e, api.ErrArg, is)
		l, e := drill.Holes(badMachine(change), exampleTruth(), 0)
		wantError(t, name, e, api.ErrArg, l)
	}
}

// P2.3: Holes returns the stops, each moved by what the machine is off.
func TestHoles(t *testing.T) {
	for blank, x := range exampleTruth().X {
		l, e := drill.Holes(machineR(), exampleTruth(), blank)
		if e != api.OK || !slices.Equal(l, points(-4+x, 0, 4+x, 0)) {
			t.Errorf("blank %d: %v, error %d", blank, l, e)
		}
	}
	d := dice(4)
	for range 100 {
		m, x := machineBy(&d, d.from(2, 4), api.DrillWide, api.DrillWander)
		blank := d.upTo(12)
		l, e := drill.Holes(m, x, blank)
		if e != api.OK || !slices.Equal(l, shifted(m.Stops, x.X[blank], x.Y[blank])) {
			t.Errorf("%v at %d in %v: %v, error %d", m, blank, x, l, e)
		}
	}
	for _, blank := range []int{-1, 13, 1 << 62, -1 << 63} {
		l, e := drill.Holes(machineM(), exampleTruth(), blank)
		wantError(t, "a blank that there is not", e, api.ErrArg, l)
	}
	l, e := drill.Holes(machineR(), with(false, 2, -1), 0)
	wantError(t, "no truth", e, api.ErrArg, l)
	l, e = drill.Holes(torn(), exampleTruth(), 0)
	wantError(t, "a machine that is not possible", e, api.ErrArg, l)
}

// P2.3: Fits agrees with the definition, for truths that were changed a little.
func TestFitsChanged(t *testing.T) {
	d := dice(5)
	changed := 0
	for range 2000 {
		m, x := machineBy(&d, 2, api.DrillWide, api.DrillWander)
		if is, e := drill.Fits(m, x); e != api.OK || !is {
			t.Fatalf("%v, %v: %v, error %d", m, x, is, e)
		}
		blank := d.upTo(12)
		x.X[blank] += d.from(-1, 1)
		x.Y[blank] += d.from(-1, 1)
		want := isTruth(m, x)
		if is, e := drill.Fits(m, x); e != api.OK || is != want {
			t.Errorf("%v, %v: %v, error %d, want %v", m, x, is, e, want)
		}
		if !want {
			changed++
		}
	}
	if changed < 200 || changed > 1800 {
		t.Errorf("%d of 2000 are no truths", changed)
	}
}

// isTruth reports whether numbers are a truth, by the definition.
func isTruth(m api.DrillMachine, x api.DrillTruth) bool {
	in := func(n int, s api.Span) bool { return s.Low <= n && n <= s.High }
	if !in(x.X[0], m.ChuckX) || !in(x.Y[0], m.ChuckY) {
		return false
	}
	for n := range api.DrillBlanks {
		if !in(x.X[n+1]-x.X[n], m.WearX) || !in(x.Y[n+1]-x.Y[n], m.WearY) {
			return false
		}
	}
	for _, r := range m.Readings {
		if apart(x.X[r.Blank], r.X, r.Err) || apart(x.Y[r.Blank], r.Y, r.Err) {
			return false
		}
	}
	return true
}

// P2.4: Known returns the bounds of all truths; the chapter's examples among others.
func TestKnown(t *testing.T) {
	sinking := machineM()
	sinking.WearY = span(-2, -1)
	far := api.DrillMachine{Stops: points(0, 0, 1, 1), ChuckX: span(6, 12), ChuckY: span(-12, -6), WearX: span(1, 3), WearY: span(-3, -1)}
	for name, x := range map[string]struct {
		m     api.DrillMachine
		blank int
		x, y  api.Span
	}{
		"m at 0":                  {machineM(), 0, span(-1, 1), span(0, 0)},
		"m at 3":                  {machineM(), 3, span(-1, 4), span(0, 0)},
		"m at 12":                 {machineM(), 12, span(-1, 13), span(0, 0)},
		"r at 0":                  {machineR(), 0, span(-1, 0), span(0, 0)},
		"r at 1":                  {machineR(), 1, span(-1, 0), span(0, 0)},
		"r at 2":                  {machineR(), 2, span(0, 0), span(0, 0)},
		"r at 5":                  {machineR(), 5, span(0, 3), span(0, 0)},
		"sinking":                 {sinking, 5, span(-1, 6), span(-10, -5)},
		"far off":                 {far, 12, span(18, 48), span(-48, -18)},
		"a later reading":         {machineM(reading(12, -1, 0, 0)), 6, span(-1, -1), span(0, 0)},
		"readings on both sides":  {machineM(reading(8, 3, 0, 0), reading(2, 0, 0, 0)), 5, span(0, 3), span(0, 0)},
		"they allow little":       {machineM(reading(2, 4, 0, 1)), 0, span(1, 1), span(0, 0)},
		"they allow little later": {machineM(reading(2, 4, 0, 1)), 3, span(3, 4), span(0, 0)},
		"two at one blank":        {machineM(reading(4, 0, 0, 2), reading(4, 3, 0, 2)), 4, span(1, 2), span(0, 0)},
	} {
		if a, b, e := drill.Known(x.m, x.blank); e != api.OK || a != x.x || b != x.y {
			t.Errorf("%s: %v %v, error %d", name, a, b, e)
		}
	}
	for _, blank := range []int{-1, 13, 1 << 62, -1 << 63} {
		for _, m := range []api.DrillMachine{machineM(), torn()} {
			a, b, e := drill.Known(m, blank)
			wantError(t, "a blank that there is not", e, api.ErrArg, a, b)
		}
	}
}

// P2.4: whatever is true, the machine is off by a number between the bounds, and each bound is reached.
func TestKnownOfAllTruths(t *testing.T) {
	d := dice(6)
	for range 60 {
		m, _ := machineBy(&d, 2, 2, 1)
		all := allTruths(m)
		for blank := range api.DrillBlanks + 1 {
			x, y, e := drill.Known(m, blank)
			if e != api.OK || x != spanAt(all.x, blank) || y != spanAt(all.y, blank) {
				t.Errorf("%v at %d: %v %v, error %d, want %v %v", m, blank, x, y, e, spanAt(all.x, blank), spanAt(all.y, blank))
			}
		}
	}
}

// P2.4: to be off by the least in X and by the most in Y at all blanks is a truth, and the other way round.
func TestKnownEnds(t *testing.T) {
	d := dice(7)
	for range 500 {
		m, truth := machineBy(&d, 2, api.DrillWide, api.DrillWander)
		var down, up api.DrillTruth
		for blank := range api.DrillBlanks + 1 {
			x, y, e := drill.Known(m, blank)
			if e != api.OK || truth.X[blank] < x.Low || truth.X[blank] > x.High || truth.Y[blank] < y.Low || truth.Y[blank] > y.High {
				t.Fatalf("%v at %d: %v %v, error %d, but %v is a truth", m, blank, x, y, e, truth)
			}
			down.X, down.Y = append(down.X, x.Low), append(down.Y, y.High)
			up.X, up.Y = append(up.X, x.High), append(up.Y, y.Low)
		}
		for _, x := range []api.DrillTruth{down, up} {
			if !isTruth(m, x) {
				t.Errorf("%v is no truth of %v", x, m)
			}
			if is, e := drill.Fits(m, x); e != api.OK || !is {
				t.Errorf("%v does not fit %v, error %d", x, m, e)
			}
		}
	}
}

// P2.3: a machine is possible just if there is a truth.
func TestMachineOfAllTruths(t *testing.T) {
	d := dice(8)
	not := 0
	for range 300 {
		m, _ := machineBy(&d, 2, 2, 1)
		if d.upTo(1) == 0 {
			m.Readings = append(m.Readings[:min(len(m.Readings), 3)], reading(d.upTo(12), d.from(-10, 10), d.from(-10, 10), 4))
		}
		for i := range m.Readings {
			m.Readings[i].X += d.from(-1, 1)
		}
		want := api.OK
		if all := allTruths(m); len(all.x) == 0 || len(all.y) == 0 {
			want = api.ErrRule
			not++
		}
		wantError(t, "a machine by chance", drill.Machine(m), want)
	}
	if not < 30 || not > 270 {
		t.Errorf("%d machines of 300 are not possible", not)
	}
}
