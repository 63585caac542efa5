package drill_test

import (
	"slices"
	"testing"

	"nacre/api"
	"nacre/drill"
)

// still returns the machine m with other stops, which does not wear.
func still(stops ...int) api.DrillMachine {
	m := machineM()
	m.Stops, m.WearX = points(stops...), span(0, 0)
	return m
}

// sinking returns the machine m, which wears in -Y alone.
func sinking() api.DrillMachine {
	m := still(-4, 0, 4, 0)
	m.WearY = span(-1, 0)
	return m
}

// P2.5: Sure and Gauge; the chapter's examples among others.
func TestSure(t *testing.T) {
	const never, may, surely = api.DrillNever, api.DrillMay, api.DrillSurely
	far := still(-4, 0, 4, 0)
	far.ChuckX = span(9, 9)
	coming := machineM()
	coming.ChuckX, coming.WearX = span(-5, -5), span(1, 1)
	for name, x := range map[string]struct {
		m     api.DrillMachine
		words []api.DrillWord
		gauge int
	}{
		"m":               {machineM(), []api.DrillWord{surely, may, may}, 1},
		"r":               {machineR(), []api.DrillWord{surely, surely, surely, surely, may, may}, 4},
		"far off":         {far, []api.DrillWord{never, never}, 0},
		"good for a time": {coming, []api.DrillWord{never, never, surely, surely, surely, surely, surely, never}, 0},
		"still":           {still(-4, 0, 4, 0), slices.Repeat([]api.DrillWord{surely}, 12), 12},
		"a quarter on":    {still(0, -4, 0, 4), slices.Repeat([]api.DrillWord{surely}, 12), 12},
		"in no order":     {still(4, 0, -4, 0), slices.Repeat([]api.DrillWord{surely}, 12), 12},
		"sinking":         {sinking(), []api.DrillWord{surely, surely, may, may}, 2},
	} {
		for before, want := range x.words {
			if w, e := drill.Sure(measureC(), x.m, before+1); e != api.OK || w != want {
				t.Errorf("%s, blank %d: %d, error %d, want %d", name, before+1, w, e, want)
			}
		}
		if n, e := drill.Gauge(measureC(), x.m); e != api.OK || n != x.gauge {
			t.Errorf("%s: Gauge %d, error %d, want %d", name, n, e, x.gauge)
		}
	}
}

// P2.5 and P2.9: Sure, Gauge and Reset return ErrArg for what is not as defined, also with a machine that is not possible.
func TestSureOfBad(t *testing.T) {
	three := api.DrillMeasure{Holes: points(-4, 0, 4, 0, 0, 3)}
	for _, m := range []api.DrillMachine{machineM(), torn()} {
		for _, blank := range []int{0, -1, 13, 1 << 62, -1 << 63} {
			w, e := drill.Sure(measureC(), m, blank)
			wantError(t, "Sure of a blank that there is not", e, api.ErrArg, w)
			l, n, e := drill.Reset(measureC(), m, blank)
			wantError(t, "Reset of a blank that there is not", e, api.ErrArg, l, n)
		}
		bad := badMeasures()
		bad["3 holes for 2 stops"] = three
		for name, c := range bad {
			w, e := drill.Sure(c, m, 1)
			wantError(t, "Sure, "+name, e, api.ErrArg, w)
			n, e := drill.Gauge(c, m)
			wantError(t, "Gauge, "+name, e, api.ErrArg, n)
			l, n, e := drill.Reset(c, m, 1)
			wantError(t, "Reset, "+name, e, api.ErrArg, l, n)
		}
	}
}

// wordOf returns what is known of whether a blank is good, by the definition.
func wordOf(c api.DrillMeasure, m api.DrillMachine, offs []api.DrillPoint) api.DrillWord {
	good := 0
	for _, off := range offs {
		if isGood(c, m, off) {
			good++
		}
	}
	switch good {
	case 0:
		return api.DrillNever
	case len(offs):
		return api.DrillSurely
	}
	return api.DrillMay
}

// P2.5 and P0.2: whatever is true, all blanks up to that of Gauge are good; the next one, if there is one, is not in some truth.
func TestGaugeOfAllTruths(t *testing.T) {
	d := dice(11)
	words, gauges := map[api.DrillWord]int{}, map[int]int{}
	for range 150 {
		c := measureBy(&d, d.from(2, 3), 9)
		m, _ := tame(&d, c, 2, 1)
		all := allTruths(m)
		gauge := 0
		for before := range api.DrillBlanks {
			want := wordOf(c, m, all.offsAt(before+1))
			if w, e := drill.Sure(c, m, before+1); e != api.OK || w != want {
				t.Errorf("%v, %v, blank %d: %d, error %d, want %d", c, m, before+1, w, e, want)
			}
			if want == api.DrillSurely && gauge == before {
				gauge = before + 1
			}
			words[want]++
		}
		if n, e := drill.Gauge(c, m); e != api.OK || n != gauge {
			t.Errorf("%v, %v: Gauge %d, error %d, want %d", c, m, n, e, gauge)
		}
		gauges[gauge]++
	}
	if len(words) < 3 || len(gauges) < 6 {
		t.Errorf("too few kinds of machines: words %v, gauges %v", words, gauges)
	}
}

// P0.2: with 4 holes and all the wear that there can be, the holes of truths by chance are good up to the blank that is told.
func TestGaugeOfTruths(t *testing.T) {
	d := dice(12)
	told := 0
	for range 300 {
		c := measureBy(&d, 4, 20)
		m, x := tame(&d, c, api.DrillWide, api.DrillWander)
		n, e := drill.Gauge(c, m)
		if e != api.OK {
			t.Fatalf("%v, %v: error %d", c, m, e)
		}
		told += n
		for blank := 1; blank <= n; blank++ {
			holes, e := drill.Holes(m, x, blank)
			_, _, f := drill.Match(c, holes)
			if e != api.OK || f != api.OK {
				t.Errorf("%v, %v: the blank %d is not good in %v, errors %d and %d", c, m, blank, x, e, f)
			}
		}
	}
	if told < 300 {
		t.Errorf("only %d blanks are told", told)
	}
}

// P2.9: Reset returns the best reset; the chapter's examples among others.
func TestReset(t *testing.T) {
	// one stop lies too far out, and one can be that of either hole
	either := still(0, 0, 7, 0)
	for name, x := range map[string]struct {
		m     api.DrillMachine
		blank int
		want  []api.DrillPoint
		moves int
	}{
		"m up to 1":        {machineM(), 1, points(-4, 0, 4, 0), 0},
		"m up to 2":        {machineM(), 2, points(-5, 0, 3, 0), 2},
		"sinking":          {sinking(), 4, points(-4, 2, 4, 2), 2},
		"one stop moves":   {still(-4, 0, 7, 0), 12, points(-4, 0, 5, 0), 1},
		"both stops move":  {either, 12, points(-3, 0, 5, 0), 2},
		"a quarter on":     {still(0, -4, 0, 4), 12, points(0, -4, 0, 4), 0},
		"turned, to move":  {still(0, -4, 0, 9), 12, points(0, -4, 0, 6), 1},
		"in another order": {still(4, 1, -4, 1), 12, points(4, 1, -4, 1), 0},
	} {
		l, n, e := drill.Reset(measureC(), x.m, x.blank)
		if e != api.OK || n != x.moves || !slices.Equal(l, x.want) {
			t.Errorf("%s: %v, %d moved, error %d", name, l, n, e)
		}
	}
	for name, m := range map[string]api.DrillMachine{"m": machineM(), "sinking": sinking()} {
		l, n, e := drill.Reset(measureC(), m, 5)
		wantError(t, name+" up to 5", e, api.ErrNone, l, n)
	}
	l, n, e := drill.Reset(measureC(), machineM(), 3)
	wantError(t, "m up to 3", e, api.ErrNone, l, n)
}

// P2.9: stops stay within reach; of several resets with as little a way the first stops are meant.
func TestResetAtTheEdge(t *testing.T) {
	edge := api.DrillMeasure{Holes: points(-20, 0, 20, 0), Off: 1}
	within, beyond := still(-18, 0, 20, 0), still(-20, 0, 20, 0)
	// the stop on the left must be at -20 or further out
	within.ChuckX = span(1, 1)
	// it would have to be at -21: a quarter on, there is room
	beyond.ChuckX = span(2, 2)
	for name, x := range map[string]struct {
		c     api.DrillMeasure
		m     api.DrillMachine
		want  []api.DrillPoint
		moves int
	}{
		"within reach":    {edge, within, points(-20, 0, 20, 0), 1},
		"beyond reach":    {edge, beyond, points(-3, -19, -1, 19), 2},
		"both ways alike": {measureC(), still(0, 0, 0, 0), points(0, -2, 0, 2), 2},
	} {
		l, n, e := drill.Reset(x.c, x.m, 1)
		if e != api.OK || n != x.moves || !slices.Equal(l, x.want) {
			t.Errorf("%s: %v, %d moved, error %d", name, l, n, e)
		}
	}
	edge.Holes = points(-20, -20, 20, 20)
	l, n, e := drill.Reset(edge, beyond, 1)
	wantError(t, "no room for the stop in a corner", e, api.ErrNone, l, n)
}

// offsUpTo returns the points by which a machine can be off at the blanks from 1 up to one.
func offsUpTo(all truths, blank int) []api.DrillPoint {
	var offs []api.DrillPoint
	for before := range blank {
		for _, p := range all.offsAt(before + 1) {
			if !slices.Contains(offs, p) {
				offs = append(offs, p)
			}
		}
	}
	return offs
}

// isSteady reports whether a machine with these stops is steady, by the definition.
func isSteady(c api.DrillMeasure, stops, offs []api.DrillPoint) bool {
	for turn := range 8 {
		for _, order := range allOrders(len(stops)) {
			if !slices.ContainsFunc(offs, func(off api.DrillPoint) bool {
				return !agree(c.Holes, c.Off, shifted(stops, off.X, off.Y), turn, order)
			}) {
				return true
			}
		}
	}
	return false
}

// placesFor returns all places of a stop so that its hole is that of a measure with a turn, whatever the machine is off.
func placesFor(c api.DrillMeasure, hole, turn int, offs []api.DrillPoint) []api.DrillPoint {
	var found []api.DrillPoint
	for x := -api.DrillReach; x <= api.DrillReach; x++ {
		for y := -api.DrillReach; y <= api.DrillReach; y++ {
			if !slices.ContainsFunc(offs, func(off api.DrillPoint) bool {
				p := turnedBy(point(x+off.X, y+off.Y), turn)
				return apart(p.X, c.Holes[hole].X, c.Off) || apart(p.Y, c.Holes[hole].Y, c.Off)
			}) {
				found = append(found, point(x, y))
			}
		}
	}
	return found
}

// movesOf returns how many stops of a machine other ones move.
func movesOf(m api.DrillMachine, stops []api.DrillPoint) int {
	n := 0
	for i, p := range stops {
		if p != m.Stops[i] {
			n++
		}
	}
	return n
}

// wayOf returns the way from the stops of a machine to other ones.
func wayOf(m api.DrillMachine, stops []api.DrillPoint) int {
	way := 0
	for i, p := range stops {
		way += max(p.X-m.Stops[i].X, m.Stops[i].X-p.X) + max(p.Y-m.Stops[i].Y, m.Stops[i].Y-p.Y)
	}
	return way
}

// isBetter reports whether stops are a better reset than other ones, by the definition.
func isBetter(m api.DrillMachine, a, b []api.DrillPoint) bool {
	if x, y := movesOf(m, a), movesOf(m, b); x != y {
		return x < y
	}
	if x, y := wayOf(m, a), wayOf(m, b); x != y {
		return x < y
	}
	for i := range a {
		if a[i].X != b[i].X {
			return a[i].X < b[i].X
		}
		if a[i].Y != b[i].Y {
			return a[i].Y < b[i].Y
		}
	}
	return false
}

// bestReset returns the best reset, by trying all stops with which a machine is steady.
func bestReset(c api.DrillMeasure, m api.DrillMachine, offs []api.DrillPoint) ([]api.DrillPoint, bool) {
	var first []api.DrillPoint
	for turn := range 8 {
		var places [][]api.DrillPoint
		for hole := range c.Holes {
			places = append(places, placesFor(c, hole, turn, offs))
		}
		for _, order := range allOrders(len(c.Holes)) {
			stops := make([]api.DrillPoint, len(c.Holes))
			var try func(hole int)
			try = func(hole int) {
				if hole == len(places) {
					if first == nil || isBetter(m, stops, first) {
						first = slices.Clone(stops)
					}
					return
				}
				for _, p := range places[hole] {
					stops[order[hole]] = p
					try(hole + 1)
				}
			}
			try(0)
		}
	}
	return first, first != nil
}

// P2.9: no stops with which the machine is steady are better, among all that there are.
func TestResetIsBest(t *testing.T) {
	d := dice(13)
	moves, none := map[int]int{}, 0
	for range 250 {
		c := measureBy(&d, d.from(2, 3), d.from(4, 20))
		// with more room for each stop there is too much to try
		c.Off = min(c.Off, 5-len(c.Holes))
		m, _ := tame(&d, c, 1, 1)
		for i := range m.Stops {
			m.Stops[i] = point(near(&d, m.Stops[i].X), near(&d, m.Stops[i].Y))
		}
		blank := d.from(1, 4)
		offs := offsUpTo(allTruths(m), blank)
		want, ok := bestReset(c, m, offs)
		got, n, e := drill.Reset(c, m, blank)
		if !ok {
			wantError(t, "a machine that no stops make steady", e, api.ErrNone, got, n)
			none++
			continue
		}
		if e != api.OK || !slices.Equal(got, want) || n != movesOf(m, want) {
			t.Errorf("%v, %v up to %d: %v, %d moved, error %d, want %v", c, m, blank, got, n, e, want)
		}
		moves[n]++
	}
	if none < 20 || len(moves) < 4 {
		t.Errorf("too few kinds of resets: %v moved, none %d times", moves, none)
	}
}

// P2.9: with the best reset the machine is steady, and all blanks surely are good; no stops that somebody proposes are better.
func TestResetOfProposals(t *testing.T) {
	d := dice(14)
	found, steady := 0, 0
	for range 100 {
		c := measureBy(&d, 4, 12)
		c.Off = d.from(3, 6)
		m, _ := tame(&d, c, 2, 1)
		blank := d.from(1, 3)
		got, n, e := drill.Reset(c, m, blank)
		if e == api.ErrNone {
			continue
		}
		found++
		offs := offsUpTo(allTruths(m), blank)
		if e != api.OK || n != movesOf(m, got) || !isSteady(c, got, offs) {
			t.Fatalf("%v, %v up to %d: %v, %d moved, error %d", c, m, blank, got, n, e)
		}
		after := m
		after.Stops = got
		if gauge, e := drill.Gauge(c, after); e != api.OK || gauge < blank {
			t.Errorf("%v, %v: with %v the blanks are good up to %d, error %d", c, m, got, gauge, e)
		}
		for range 10 {
			proposed := slices.Clone(got)
			for range d.from(1, 2) {
				i := d.upTo(3)
				proposed[i] = []api.DrillPoint{m.Stops[i], point(near(&d, got[i].X), near(&d, got[i].Y))}[d.upTo(1)]
			}
			if isBetter(m, proposed, got) && isSteady(c, proposed, offs) {
				t.Errorf("%v, %v up to %d: %v is better than %v", c, m, blank, proposed, got)
			}
			if isSteady(c, proposed, offs) {
				steady++
			}
		}
	}
	if found < 30 || steady < 30 {
		t.Errorf("only %d resets, and %d proposals that are steady", found, steady)
	}
}
