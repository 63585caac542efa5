package drill_test

import (
	"slices"
	"testing"

	"nacre/api"
	"nacre/drill"
)

// P2.1: Check returns ErrArg for a measure that is not as defined, or OK.
func TestCheck(t *testing.T) {
	for name, c := range map[string]api.DrillMeasure{
		"c":          measureC(),
		"the least":  {Holes: points(0, 0, 0, 1)},
		"the most":   {Holes: points(-20, 20, 20, -20, 20, 20, -20, -20), Off: 6},
		"equal in X": {Holes: points(3, 1, 3, 2, 3, 3)},
		"swapped":    {Holes: points(1, 2, 2, 1)},
	} {
		wantError(t, name, drill.Check(c), api.OK)
	}
	for name, c := range badMeasures() {
		wantError(t, name, drill.Check(c), api.ErrArg)
	}
}

// P2.1: Turn returns a list of points, turned; the chapter's examples among others.
func TestTurn(t *testing.T) {
	want := points(1, 2, -2, 1, -1, -2, 2, -1, -1, 2, -2, -1, 1, -2, 2, 1)
	for turn, p := range want {
		got, e := drill.Turn(points(1, 2, 80, -80), turn)
		if corner := turnedBy(point(80, -80), turn); e != api.OK || !slices.Equal(got, []api.DrillPoint{p, corner}) {
			t.Errorf("turn %d: %v, error %d", turn, got, e)
		}
	}
	for _, l := range [][]api.DrillPoint{nil, {}, points(3, 4), points(1, 2, 1, 2, 3, 4, 5, 6)} {
		if got, e := drill.Turn(l, 5); e != api.OK || !slices.Equal(got, allTurned(l, 5)) {
			t.Errorf("%v: %v, error %d", l, got, e)
		}
	}
}

// P2.1: Turn returns ErrArg for a turn that there is not, for too many points, and for points too far out.
func TestTurnOfBad(t *testing.T) {
	for _, turn := range []int{-1, 8, -8, 1 << 62, -1 << 63} {
		got, e := drill.Turn(points(1, 2), turn)
		wantError(t, "a turn that there is not", e, api.ErrArg, got)
	}
	for name, l := range map[string][]api.DrillPoint{
		"5 points": points(1, 1, 2, 2, 3, 3, 4, 4, 5, 5),
		"X 81":     points(81, 0),
		"X -81":    points(-81, 0),
		"Y 81":     points(0, 81),
		"Y -81":    points(0, 0, 0, -81),
		"X least":  points(-1<<63, 0),
	} {
		got, e := drill.Turn(l, 0)
		wantError(t, name, e, api.ErrArg, got)
	}
}

// times returns points that were turned several times.
func times(t *testing.T, l []api.DrillPoint, turn, many int) []api.DrillPoint {
	t.Helper()
	for range many {
		got, e := drill.Turn(l, turn)
		if e != api.OK {
			t.Fatalf("turn %d of %v: error %d", turn, l, e)
		}
		l = got
	}
	return l
}

// P2.1: a list that is turned four times by the turn 1, or twice by the turn 4, is as before; points are as far apart.
func TestTurnAgain(t *testing.T) {
	d := dice(1)
	away := func(p, q api.DrillPoint) int { return (p.X-q.X)*(p.X-q.X) + (p.Y-q.Y)*(p.Y-q.Y) }
	for range 200 {
		l := d.points(d.upTo(4), api.DrillFar)
		if !slices.Equal(times(t, l, 1, 4), l) || !slices.Equal(times(t, l, 4, 2), l) {
			t.Errorf("%v is not as before", l)
		}
		for turn := range 8 {
			turned := times(t, l, turn, 1)
			for i, p := range l {
				if away(p, l[0]) != away(turned[i], turned[0]) {
					t.Errorf("turn %d takes %v to %v", turn, l, turned)
				}
			}
		}
	}
}

// P2.2: Match returns the first turn and order; the chapter's example among others.
func TestMatch(t *testing.T) {
	square := api.DrillMeasure{Holes: points(-3, -3, 3, -3, 3, 3, -3, 3), Off: 1}
	odd := api.DrillMeasure{Holes: points(0, 0, 5, 0, 0, 2)}
	for name, x := range map[string]struct {
		c     api.DrillMeasure
		l     []api.DrillPoint
		turn  int
		order []int
	}{
		"the example":       {measureC(), points(5, 1, -3, 1), 0, []int{1, 0}},
		"off by 2":          {measureC(), points(-2, 2, 2, -2), 0, []int{0, 1}},
		"a square":          {square, square.Holes, 0, []int{0, 1, 2, 3}},
		"a square, moved":   {square, points(3, -3, 3, 3, -3, 3, -3, -3), 0, []int{3, 0, 1, 2}},
		"by one quarter":    {odd, points(0, 0, 0, -5, 2, 0), 1, []int{0, 1, 2}},
		"by three quarters": {odd, points(0, 5, 0, 0, -2, 0), 3, []int{1, 0, 2}},
		"mirrored":          {odd, points(0, 0, -5, 0, 0, 2), 4, []int{0, 1, 2}},
		"mirrored, moved":   {odd, points(0, 2, 0, 0, -5, 0), 4, []int{1, 2, 0}},
		"mirrored, turned":  {odd, points(0, 5, 2, 0, 0, 0), 7, []int{2, 0, 1}},
		"equal points":      {api.DrillMeasure{Holes: points(0, 0, 2, 0), Off: 1}, points(1, 0, 1, 0), 0, []int{0, 1}},
	} {
		turn, order, e := drill.Match(x.c, x.l)
		if e != api.OK || turn != x.turn || !slices.Equal(order, x.order) {
			t.Errorf("%s: the turn %d, the order %v, error %d", name, turn, order, e)
		}
	}
}

// P2.2: Match has errors for lists that are not as defined, and for lists that are not good.
func TestMatchOfBad(t *testing.T) {
	for name, l := range map[string][]api.DrillPoint{
		"off by 3": points(-1, 0, 4, 0),
		"off in Y": points(-4, 3, 4, 0),
		"centered": points(0, 0, 0, 0),
		"far out":  points(80, 80, -80, -80),
	} {
		turn, order, e := drill.Match(measureC(), l)
		wantError(t, name, e, api.ErrNone, turn, order)
	}
	for name, l := range map[string][]api.DrillPoint{
		"nothing":   nil,
		"one point": points(1, 2),
		"3 points":  points(-4, 0, 4, 0, 0, 0),
		"X 81":      points(-4, 0, 81, 0),
		"Y -81":     points(-4, -81, 4, 0),
	} {
		turn, order, e := drill.Match(measureC(), l)
		wantError(t, name, e, api.ErrArg, turn, order)
	}
	for name, c := range badMeasures() {
		turn, order, e := drill.Match(c, c.Holes)
		wantError(t, name, e, api.ErrArg, turn, order)
	}
}

// P2.2: with no turn and order before those of Match the list is of the measure, and it is with these.
func TestMatchIsFirst(t *testing.T) {
	d := dice(2)
	turns, none := map[int]bool{}, 0
	for range 3000 {
		c := measureBy(&d, d.from(2, 4), d.from(3, 20))
		var l []api.DrillPoint
		by, turn := c.Off+d.upTo(1), d.upTo(7)
		for _, p := range allTurned(d.shuffled(c.Holes), turn) {
			l = append(l, point(p.X+d.from(-by, by), p.Y+d.from(-by, by)))
		}
		turn, order, ok := firstMatch(c.Holes, c.Off, l)
		gotTurn, gotOrder, e := drill.Match(c, l)
		if ok && (e != api.OK || gotTurn != turn || !slices.Equal(gotOrder, order)) {
			t.Errorf("%v of %v: %d %v, error %d, want %d %v", l, c, gotTurn, gotOrder, e, turn, order)
		}
		if !ok {
			wantError(t, "a list that is not good", e, api.ErrNone, gotTurn, gotOrder)
			none++
		}
		turns[gotTurn] = true
	}
	if len(turns) < 8 || none < 300 {
		t.Errorf("only the turns %v were found, and %d lists were not good", turns, none)
	}
}

// P2.2: a list is good just if it is good after it was turned.
func TestMatchTurned(t *testing.T) {
	d := dice(3)
	good := 0
	for range 300 {
		c := measureBy(&d, d.from(2, 4), 6)
		l := d.points(len(c.Holes), 6)
		_, _, before := drill.Match(c, l)
		for turn := range 8 {
			if _, _, e := drill.Match(c, times(t, l, turn, 1)); e != before {
				t.Errorf("%v of %v: error %d, after the turn %d %d", l, c, before, turn, e)
			}
		}
		if before == api.OK {
			good++
		}
	}
	if good < 30 || good > 270 {
		t.Errorf("%d lists of 300 are good", good)
	}
}
