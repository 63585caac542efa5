package shift_test

import (
	"slices"
	"testing"

	"nacre/api"
	"nacre/shift"
)

// P5.2: Breathes returns the least and the most that is breathed; the chapter's examples and others of its house.
func TestBreathesOfH(t *testing.T) {
	for name, x := range map[string]struct {
		house api.ShiftHouse
		path  []int
		want  api.Span
	}{
		"both rooms":             {houseH(), []int{0, 1, -1}, span(2, 11)},
		"both rooms, turned":     {houseH(), []int{1, 0, -1}, span(2, 16)},
		"rest":                   {houseH(), []int{-1, -1, -1}, only(0)},
		"the room 0":             {houseH(), []int{0, 0, 0}, span(0, 36)},
		"the room 1, and closed": {houseH(), []int{1, 1, 1}, span(5, 19)},
		"closed alone":           {houseH(), []int{-1, -1, 1}, span(1, 7)},
		"no more than can be":    {fullHouse(), []int{0, 1, 0, 1}, span(400, 700)},
		"nothing at all":         {bareHouse(), []int{0}, only(0)},
	} {
		if got, e := shift.Breathes(x.house, x.path); e != api.OK || got != x.want {
			t.Errorf("%s: %v, error %d, want %v", name, got, e, x.want)
		}
	}
	for name, path := range badPaths() {
		got, e := shift.Breathes(houseH(), path)
		wantError(t, name, e, api.ErrArg, got)
	}
	for name, h := range badHouses() {
		got, e := shift.Breathes(h, []int{0, 1, -1})
		wantError(t, name, e, api.ErrArg, got)
	}
}

// P5.2: Safe tells what is sure from what can be, at both ends of what is breathed.
func TestSafeOfH(t *testing.T) {
	for _, x := range []struct {
		limit int
		path  []int
		want  api.ShiftWord
	}{
		{11, []int{0, 1, -1}, api.ShiftSurely},
		{10, []int{0, 1, -1}, api.ShiftMay},
		{2, []int{0, 1, -1}, api.ShiftMay},
		{1, []int{0, 1, -1}, api.ShiftNever},
		{0, []int{0, 1, -1}, api.ShiftNever},
		{2000, []int{0, 1, -1}, api.ShiftSurely},
		{0, []int{-1, -1, -1}, api.ShiftSurely},
		{0, []int{0, 0, 0}, api.ShiftMay},
		{35, []int{0, 0, 0}, api.ShiftMay},
		{36, []int{0, 0, 0}, api.ShiftSurely},
	} {
		if got, e := shift.Safe(houseH(), x.limit, x.path); e != api.OK || got != x.want {
			t.Errorf("%d, %v: %d, error %d, want %d", x.limit, x.path, got, e, x.want)
		}
	}
	for _, limit := range []int{-1, 2001, 1<<63 - 1, -1 << 63} {
		got, e := shift.Safe(houseH(), limit, []int{0, 1, -1})
		wantError(t, "a limit", e, api.ErrArg, got)
	}
	for name, path := range badPaths() {
		got, e := shift.Safe(houseH(), 10, path)
		wantError(t, name, e, api.ErrArg, got)
	}
	for name, h := range badHouses() {
		got, e := shift.Safe(h, 10, []int{0, 1, -1})
		wantError(t, name, e, api.ErrArg, got)
	}
}

// checkPath fails unless Breathes and Safe return what truths give.
func checkPath(t *testing.T, k known, path []int) {
	t.Helper()
	want := k.breathes(path)
	if got, e := shift.Breathes(k.house, path); e != api.OK || got != want {
		t.Fatalf("%v, %v: %v, error %d, want %v", k.house, path, got, e, want)
	}
	for _, limit := range []int{want.Low - 1, want.Low, want.High - 1, want.High, want.High + 1} {
		if limit < 0 {
			continue
		}
		word := api.ShiftMay
		if want.High <= limit {
			word = api.ShiftSurely
		} else if want.Low > limit {
			word = api.ShiftNever
		}
		if got, e := shift.Safe(k.house, limit, path); e != api.OK || got != word {
			t.Fatalf("%v, %d, %v: %d, error %d, want %d", k.house, limit, path, got, e, word)
		}
	}
}

// P5.2: Breathes returns the ends that all truths reach, and Safe what they are for a limit.
func TestBreathesByChance(t *testing.T) {
	d := dice(3)
	for range 40 {
		k := tried(houseBy(&d, small()))
		for range 10 {
			checkPath(t, k, pathBy(&d, k.house))
		}
	}
	for range 200 {
		h := houseBy(&d, large())
		path := pathBy(&d, h)
		checkPath(t, bounded(h), path)
		s, _ := shift.Breathes(h, path)
		for range 20 {
			truth := truthBy(&d, h)
			if n := breathedIn(dustIn(h, truth), path); !isIn(n, s) {
				t.Fatalf("%v, %v, %v: %d is not in %v", h, path, truth, n, s)
			}
		}
	}
}

// P5.3: Worst and Best return the first path of those with the greatest and the least most; the chapter's examples and others of its house.
func TestWorstOfH(t *testing.T) {
	for name, x := range map[string]struct {
		house             api.ShiftHouse
		duty, worst, best []int
		most, least       int
	}{
		"both rooms":       {houseH(), []int{1, 1}, []int{-1, 1, 0}, []int{0, -1, 1}, 23, 10},
		"nothing":          {houseH(), []int{0, 0}, []int{-1, -1, -1}, []int{-1, -1, -1}, 0, 0},
		"all hours":        {houseH(), []int{3, 0}, []int{0, 0, 0}, []int{0, 0, 0}, 36, 36},
		"all in both":      {houseH(), []int{2, 1}, []int{1, 0, 0}, []int{0, 0, 1}, 34, 22},
		"two hours":        {houseH(), []int{2, 0}, []int{-1, 0, 0}, []int{0, 0, -1}, 30, 18},
		"two equal worst":  {houseH(), []int{0, 1}, []int{-1, -1, 1}, []int{1, -1, -1}, 7, 5},
		"equal all":        {bareHouse(), []int{1}, []int{0}, []int{0}, 0, 0},
		"rest before work": {changed(func(h *api.ShiftHouse) { h.Rooms = make([]api.ShiftRoom, 2) }), []int{1, 1}, []int{-1, 0, 1}, []int{-1, 0, 1}, 0, 0},
		"the most dust":    {fullHouse(), []int{2, 2, 0}, []int{0, 0, 1, 1}, []int{0, 0, 1, 1}, 700, 700},
		"less when drawn":  {fullHouse(), []int{1, 0, 1}, []int{-1, -1, 2, 0}, []int{0, -1, -1, 2}, 250, 100},
	} {
		if path, n, e := shift.Worst(x.house, x.duty); e != api.OK || n != x.most || !slices.Equal(path, x.worst) {
			t.Errorf("%s: worst %v, %d, error %d, want %v, %d", name, path, n, e, x.worst, x.most)
		}
		if path, n, e := shift.Best(x.house, x.duty); e != api.OK || n != x.least || !slices.Equal(path, x.best) {
			t.Errorf("%s: best %v, %d, error %d, want %v, %d", name, path, n, e, x.best, x.least)
		}
	}
}

// P5.3: Any reports whether all paths of a duty are safe.
func TestAnyOfH(t *testing.T) {
	for _, x := range []struct {
		limit int
		duty  []int
		want  bool
	}{
		{20, []int{1, 1}, false}, {22, []int{1, 1}, false}, {23, []int{1, 1}, true}, {2000, []int{1, 1}, true},
		{0, []int{1, 1}, false}, {0, []int{0, 0}, true}, {35, []int{3, 0}, false}, {36, []int{3, 0}, true},
	} {
		if got, e := shift.Any(houseH(), x.limit, x.duty); e != api.OK || got != x.want {
			t.Errorf("%d, %v: %v, error %d", x.limit, x.duty, got, e)
		}
	}
	for _, limit := range []int{-1, 2001, 1<<63 - 1, -1 << 63} {
		got, e := shift.Any(houseH(), limit, []int{1, 1})
		wantError(t, "a limit", e, api.ErrArg, got)
	}
}

// P5.3: Worst, Best and Any have ErrArg for a list that is no duty, and for a house that is not as defined.
func TestBadDuties(t *testing.T) {
	check := func(name string, h api.ShiftHouse, duty []int) {
		t.Helper()
		path, n, e := shift.Worst(h, duty)
		wantError(t, name, e, api.ErrArg, path, n)
		path, n, e = shift.Best(h, duty)
		wantError(t, name, e, api.ErrArg, path, n)
		is, e := shift.Any(h, 2000, duty)
		wantError(t, name, e, api.ErrArg, is)
	}
	for name, duty := range map[string][]int{
		"nothing":                   nil,
		"a room less":               {1},
		"a room more":               {1, 1, 0},
		"many rooms":                make([]int, 1000000),
		"hours below 0":             {-1, 1},
		"hours below 0 at the end":  {2, -1},
		"an hour too many":          {2, 2},
		"an hour too many in one":   {0, 4},
		"far too many":              {1<<63 - 1, 1},
		"too many, around to 0":     {1<<63 - 1, 1<<63 - 1},
		"far below 0":               {-1 << 63, 1},
		"below 0, around to enough": {-1 << 63, -1 << 63},
	} {
		check(name, houseH(), duty)
	}
	for name, h := range badHouses() {
		check(name, h, []int{1, 1})
	}
}

// checkDuty fails unless Worst, Best and Any return what all paths that do a duty give.
func checkDuty(t *testing.T, k known, duty []int) {
	t.Helper()
	var worst, best []int
	most, least := -1, -1
	for _, path := range allPaths(k.house) {
		if !slices.Equal(dutyOf(k.house, path), duty) {
			continue
		}
		n := k.breathes(path).High
		if most < 0 || n > most {
			worst, most = path, n
		}
		if least < 0 || n < least {
			best, least = path, n
		}
	}
	if path, n, e := shift.Worst(k.house, duty); e != api.OK || n != most || !slices.Equal(path, worst) {
		t.Fatalf("%v, %v: worst %v, %d, error %d, want %v, %d", k.house, duty, path, n, e, worst, most)
	}
	if path, n, e := shift.Best(k.house, duty); e != api.OK || n != least || !slices.Equal(path, best) {
		t.Fatalf("%v, %v: best %v, %d, error %d, want %v, %d", k.house, duty, path, n, e, best, least)
	}
	for _, limit := range []int{max(0, most-1), most, most + 1} {
		if is, e := shift.Any(k.house, limit, duty); e != api.OK || is != (most <= limit) {
			t.Fatalf("%v, %d, %v: %v, error %d", k.house, limit, duty, is, e)
		}
	}
}

// P5.3: Worst, Best and Any return what their definitions say, of all paths.
func TestWorstByChance(t *testing.T) {
	d := dice(4)
	for range 40 {
		k := tried(houseBy(&d, small()))
		for range 4 {
			checkDuty(t, k, dutyOf(k.house, pathBy(&d, k.house)))
		}
	}
	for range 150 {
		h := houseBy(&d, large())
		checkDuty(t, bounded(h), dutyOf(h, pathBy(&d, h)))
	}
}

// P5.3: whatever the order and whatever is true, no more is breathed in a duty than on its worst path.
func TestWorstOfAnyTruth(t *testing.T) {
	d := dice(5)
	reached := 0
	for range 500 {
		h := houseBy(&d, large())
		path := pathBy(&d, h)
		_, most, e := shift.Worst(h, dutyOf(h, path))
		_, least, g := shift.Best(h, dutyOf(h, path))
		s, _ := shift.Breathes(h, path)
		if e != api.OK || g != api.OK || !isIn(s.High, span(least, most)) {
			t.Fatalf("%v, %v: %v is not from %d to %d, errors %d, %d", h, path, s, least, most, e, g)
		}
		for range 10 {
			truth := truthBy(&d, h)
			n := breathedIn(dustIn(h, truth), path)
			if n > most {
				t.Fatalf("%v, %v, %v: %d, and the most is %d", h, path, truth, n, most)
			}
			if n == most && n > 0 {
				reached++
			}
		}
	}
	if reached < 50 {
		t.Errorf("%d are the most", reached)
	}
}

// P5.6: Where returns where a hand can have been; the chapter's example and others of its house.
func TestWhereOfH(t *testing.T) {
	for _, x := range []struct {
		seen, off int
		want      []int
	}{
		{30, 2, []int{7, 6, 2}},
		{0, 0, []int{3, 3, 3}},
		{36, 0, []int{2, 2, 2}},
		{40, 4, []int{2, 2, 2}},
		{136, 100, []int{2, 2, 2}},
		// only rest and the room 0 let a mask hold nothing
		{0, 1, []int{3, 3, 7}},
		{0, 100, []int{7, 7, 7}},
		{10, 100, []int{7, 7, 7}},
	} {
		if got, e := shift.Where(houseH(), x.seen, x.off); e != api.OK || !slices.Equal(got, x.want) {
			t.Errorf("%d, %d: %v, error %d, want %v", x.seen, x.off, got, e, x.want)
		}
	}
	for _, x := range [][2]int{{37, 0}, {40, 3}, {137, 100}, {2000, 100}, {2000, 0}} {
		got, e := shift.Where(houseH(), x[0], x[1])
		wantError(t, "too much", e, api.ErrNone, got)
	}
	for _, x := range [][2]int{{-1, 0}, {2001, 0}, {30, -1}, {30, 101}, {1<<63 - 1, 1<<63 - 1}, {-1 << 63, 0}, {0, -1 << 63}, {-1, -1}, {40, -3}} {
		got, e := shift.Where(houseH(), x[0], x[1])
		wantError(t, "a number", e, api.ErrArg, got)
	}
	for name, h := range badHouses() {
		got, e := shift.Where(h, 30, 2)
		wantError(t, name, e, api.ErrArg, got)
	}
}

// P5.6: Where returns where the paths go with which a mask agrees: those on which some number near enough lies within what is breathed.
func TestWhereByChance(t *testing.T) {
	d := dice(6)
	check := func(k known, seen, off int) {
		t.Helper()
		where := make([]int, k.house.Hours)
		agreed := false
		for _, path := range allPaths(k.house) {
			s := k.breathes(path)
			agrees := false
			for n := seen - off; n <= seen+off; n++ {
				agrees = agrees || isIn(n, s)
			}
			for hour, room := range path {
				if agrees {
					where[hour] |= []int{1, 2, 4, 8}[room+1]
				}
			}
			agreed = agreed || agrees
		}
		got, e := shift.Where(k.house, seen, off)
		if !agreed {
			wantError(t, "no path", e, api.ErrNone, got)
		} else if e != api.OK || !slices.Equal(got, where) {
			t.Fatalf("%v, %d, %d: %v, error %d, want %v", k.house, seen, off, got, e, where)
		}
	}
	for range 30 {
		check(tried(houseBy(&d, small())), d.upTo(60), d.upTo(3))
	}
	for range 150 {
		check(bounded(houseBy(&d, large())), d.upTo(400), d.upTo([]int{0, 5, 100}[d.upTo(2)]))
	}
}

// P5.6: a hand is where the mask tells, if it was read within Off.
func TestWhereOfAnyTruth(t *testing.T) {
	d := dice(7)
	told := 0
	for range 400 {
		h := houseBy(&d, large())
		path, truth, off := pathBy(&d, h), truthBy(&d, h), d.upTo(10)
		seen := max(0, breathedIn(dustIn(h, truth), path)+d.from(-off, off))
		got, e := shift.Where(h, seen, off)
		if e != api.OK {
			t.Fatalf("%v, %d, %d: error %d", h, seen, off, e)
		}
		for hour, room := range path {
			if got[hour]>>(room+1)&1 == 0 {
				t.Fatalf("%v, %d, %d: %v, but the path is %v", h, seen, off, got, path)
			}
			if got[hour] < 1<<(len(h.Rooms)+1)-1 {
				told++
			}
		}
	}
	if told < 50 {
		t.Errorf("%d hours are told", told)
	}
}
