package drum_test

import (
	"slices"
	"testing"

	"nacre/api"
	"nacre/drum"
)

// P3.3: Run returns how rough and how thick each batch is after some hours, in truth.
func TestRun(t *testing.T) {
	weak := truth(0, 40, 35, 30, 25)
	type state = api.DrumState
	for hours, want := range [][]state{
		{{Rough: 100, Thick: 200}, {Rough: 60, Thick: 100}, {Rough: 20, Thick: 50}},
		{{Rough: 60, Thick: 184}, {Rough: 40, Thick: 92}, {Rough: 16, Thick: 34}},
		{{Rough: 25, Thick: 170}, {Rough: 23, Thick: 85}, {Rough: 13, Thick: 20}},
		{{Rough: 0, Thick: 158}, {Rough: 8, Thick: 79}, {Rough: 10, Thick: 8}},
		{{Rough: 0, Thick: 148}, {Rough: 0, Thick: 74}, {Rough: 8, Thick: 0}},
	} {
		if got, e := drum.Run(drumD(), weak, hours); e != api.OK || !slices.Equal(got, want) {
			t.Errorf("%d hours: %v, error %d", hours, got, e)
		}
	}
	// each hour is rounded down for itself: 1 each, not 3 together
	slow := plain(15, 2, batch(9, 0, 9, 0, 10, 9))
	if got, e := drum.Run(slow, truth(0, 15, 15), 2); e != api.OK || !slices.Equal(got, []state{{Rough: 7, Thick: 7}}) {
		t.Errorf("rounded down: %v, error %d", got, e)
	}
	most := plain(100, 12, batch(1000, 0, 1000, 0, 100, 99))
	if got, e := drum.Run(most, truth(0, slices.Repeat([]int{100}, 12)...), 12); e != api.OK || !slices.Equal(got, []state{{}}) {
		t.Errorf("no less than nothing: %v, error %d", got, e)
	}
}

// P3.3: Run returns ErrArg for what is no truth, and for hours that there are not.
func TestRunOfBad(t *testing.T) {
	for name, y := range map[string]api.DrumTruth{
		"nothing": {}, "a third acid": truth(2, 40, 35, 30, 25), "no acid": truth(-1, 40, 35, 30, 25), "3 hours": truth(0, 40, 35, 30),
		"5 hours": truth(0, 40, 35, 30, 25, 20), "one that falls too little": truth(0, 40, 36, 31, 26), "not as the strip shows": truth(1, 80, 60, 40, 20),
	} {
		states, e := drum.Run(drumD(), y, 2)
		wantError(t, name, e, api.ErrArg, states)
	}
	for _, hours := range []int{-1, 5, 1 << 62, -1 << 63} {
		states, e := drum.Run(drumD(), truth(0, 40, 35, 30, 25), hours)
		wantError(t, "Run after hours that there are not", e, api.ErrArg, states)
		for name, d := range map[string]api.DrumDrum{"d": drumD(), "one not possible": torn()} {
			known, e := drum.Known(d, hours)
			wantError(t, name+", Known after hours that there are not", e, api.ErrArg, known)
		}
	}
}

// P3.3: Known returns the bounds of each batch; the chapter's example among others.
func TestKnown(t *testing.T) {
	bounds := func(a, b, c, d int) api.DrumBounds { return api.DrumBounds{Rough: span(a, b), Thick: span(c, d)} }
	for name, x := range map[string]struct {
		d     api.DrumDrum
		hours int
		want  []api.DrumBounds
	}{
		"d at first":     {drumD(), 0, []api.DrumBounds{bounds(100, 100, 200, 200), bounds(60, 60, 100, 100), bounds(20, 20, 50, 50)}},
		"d after 2":      {drumD(), 2, []api.DrumBounds{bounds(0, 25, 156, 170), bounds(6, 23, 78, 85), bounds(10, 13, 6, 20)}},
		"f after 4":      {drumF(), 4, []api.DrumBounds{bounds(30, 80, 216, 240)}},
		"g after 1":      {drumG(), 1, []api.DrumBounds{bounds(20, 35, 168, 174), bounds(20, 28, 84, 87), bounds(12, 14, 18, 24)}},
		"0 is not below": {plain(100, 2, batch(150, 0, 50, 0, 100, 100)), 2, []api.DrumBounds{bounds(0, 0, 0, 0)}},
	} {
		if got, e := drum.Known(x.d, x.hours); e != api.OK || !slices.Equal(got, x.want) {
			t.Errorf("%s: %v, error %d", name, got, e)
		}
	}
}

// P3.3: Run returns what the definition says, and Known the least and the greatest of what Run returns in all truths.
func TestRunAndKnownByTrying(t *testing.T) {
	d := dice(11)
	two := 0
	for range 300 {
		x, _ := drumBy(&d)
		truths := allTruths(x)
		hours := d.upTo(x.Hours)
		y := truths[d.upTo(len(truths)-1)]
		states, e := drum.Run(x, y, hours)
		known, g := drum.Known(x, hours)
		if e != api.OK || g != api.OK || len(states) != len(x.Batches) || len(known) != len(x.Batches) {
			t.Fatalf("%v, %v: %v, error %d, %v, error %d", x, y, states, e, known, g)
		}
		for n, b := range x.Batches {
			if want := stateAfter(b, y, hours); states[n] != want {
				t.Fatalf("%v, %v, batch %d after %d: %v, want %v", x, y, n, hours, states[n], want)
			}
			if want := boundsAfter(b, truths, hours); known[n] != want {
				t.Fatalf("%v, batch %d after %d: %v, want %v", x, n, hours, known[n], want)
			}
			if len(acidsOf(truths)) > 1 && known[n].Rough.Low < known[n].Rough.High {
				two++
			}
		}
	}
	if two < 30 {
		t.Errorf("%d batches of which more is not known", two)
	}
}

// alive returns which strengths the acid of a drum can have in each hour, going from hour to hour forth and back.
func alive(x api.DrumDrum, acid int) []map[int]bool {
	a := x.Acids[acid]
	hours := make([]map[int]bool, x.Hours)
	put := func(hour, left int) {
		n := left + x.Adds[hour]
		for _, s := range x.Strips {
			if s.Hour == hour && max(n-s.Seen, s.Seen-n) > s.Off {
				return
			}
		}
		hours[hour][n] = true
	}
	for hour := range hours {
		hours[hour] = map[int]bool{}
		if hour == 0 {
			for n := a.Strength.Low; n <= a.Strength.High; n++ {
				put(0, n)
			}
			continue
		}
		for n := range hours[hour-1] {
			for _, left := range falls(n, a.Fall) {
				put(hour, left)
			}
		}
	}
	for hour := x.Hours - 2; hour >= 0; hour-- {
		for n := range hours[hour] {
			if !slices.ContainsFunc(falls(n, a.Fall), func(left int) bool { return hours[hour+1][left+x.Adds[hour+1]] }) {
				delete(hours[hour], n)
			}
		}
	}
	return hours
}

// falls returns what can be left of an acid after an hour.
func falls(n int, fall api.Span) []int {
	var l []int
	for by := fall.Low; by <= fall.High; by++ {
		l = append(l, max(0, n-by))
	}
	return slices.Compact(l)
}

// losses returns the least and the greatest sum of what is lost at a rate, after each number of hours, over all ways through strengths that can be.
func losses(x api.DrumDrum, acid, rate int) []api.Span {
	hours := alive(x, acid)
	all := []api.Span{{}}
	sums := map[int]api.Span{}
	for hour, strengths := range hours {
		next := map[int]api.Span{}
		add := func(n int, s api.Span) {
			lost := span(s.Low+n*rate/100, s.High+n*rate/100)
			if old, ok := next[n]; ok {
				lost = span(min(lost.Low, old.Low), max(lost.High, old.High))
			}
			next[n] = lost
		}
		if hour == 0 {
			for n := range strengths {
				add(n, api.Span{})
			}
		}
		for before, s := range sums {
			for _, left := range falls(before, x.Acids[acid].Fall) {
				if n := left + x.Adds[hour]; strengths[n] {
					add(n, s)
				}
			}
		}
		sums = next
		s := span(1<<30, 0)
		for _, lost := range sums {
			s = span(min(s.Low, lost.Low), max(s.High, lost.High))
		}
		all = append(all, s)
	}
	return all
}

// P3.1 to P3.3: for drums with far too many truths, Could, Strength and Known return what going from hour to hour gives.
func TestBigDrums(t *testing.T) {
	d := dice(12)
	wide := 0
	for range 60 {
		x, y := bigDrum(&d)
		if fits, e := drum.Fits(x, y); e != api.OK || !fits {
			t.Fatalf("%v, %v: %v, error %d", x, y, fits, e)
		}
		var could []int
		strength := slices.Repeat([]api.Span{span(1<<30, 0)}, x.Hours)
		for n := range x.Acids {
			hours := alive(x, n)
			if x.Known>>n&1 == 0 || len(hours[0]) == 0 {
				continue
			}
			could = append(could, n)
			for hour, strengths := range hours {
				for n := range strengths {
					strength[hour] = span(min(strength[hour].Low, n), max(strength[hour].High, n))
				}
			}
		}
		if got, e := drum.Could(x); e != api.OK || !slices.Equal(got, could) {
			t.Fatalf("%v: %v, error %d, want %v", x, got, e, could)
		}
		if got, e := drum.Strength(x); e != api.OK || !slices.Equal(got, strength) {
			t.Fatalf("%v: %v, error %d, want %v", x, got, e, strength)
		}
		wantKnown(t, x, could)
		if strength[x.Hours/2].High-strength[x.Hours/2].Low > 20 {
			wide++
		}
	}
	if wide < 10 {
		t.Errorf("%d drums of which much is not known", wide)
	}
}

// wantKnown fails unless Known returns what acids give, going from hour to hour.
func wantKnown(t *testing.T, x api.DrumDrum, acids []int) {
	t.Helper()
	for hours := range x.Hours + 1 {
		known, e := drum.Known(x, hours)
		if e != api.OK || len(known) != len(x.Batches) {
			t.Fatalf("%v: %v, error %d", x, known, e)
		}
		for n, b := range x.Batches {
			polish, eat := span(1<<30, 0), span(1<<30, 0)
			for _, a := range acids {
				p, q := losses(x, a, b.Polish)[hours], losses(x, a, b.Eat)[hours]
				polish = span(min(polish.Low, p.Low), max(polish.High, p.High))
				eat = span(min(eat.Low, q.Low), max(eat.High, q.High))
			}
			want := api.DrumBounds{
				Rough: span(max(0, b.Rough-polish.High), max(0, b.Rough-polish.Low)),
				Thick: span(max(0, b.Thick-eat.High), max(0, b.Thick-eat.Low)),
			}
			if known[n] != want {
				t.Fatalf("%v, batch %d after %d: %v, want %v", x, n, hours, known[n], want)
			}
		}
	}
}

// P3.4: Smooth and Thin return the smooth and the thin hour; the chapter's examples among others.
func TestSmoothAndThin(t *testing.T) {
	still := batch(5, 5, 7, 7, 0, 0)
	for name, x := range map[string]struct {
		d            api.DrumDrum
		batch        int
		smooth, thin int
		e, g         api.Errno
	}{
		"d 0":                    {drumD(), 0, 2, 2, api.OK, api.OK},
		"d 1":                    {drumD(), 1, 2, 3, api.OK, api.OK},
		"d 2":                    {drumD(), 2, 0, 0, api.OK, api.OK},
		"f":                      {drumF(), 0, 0, 4, api.ErrNone, api.OK},
		"too thin at first":      {plain(10, 2, batch(10, 0, 5, 6, 100, 100)), 0, 1, 0, api.OK, api.ErrNone},
		"neither":                {plain(10, 2, batch(30, 0, 5, 6, 100, 100)), 0, 0, 0, api.ErrNone, api.ErrNone},
		"all hours":              {plain(10, 2, still), 0, 0, 2, api.OK, api.OK},
		"the last hour":          {plain(10, 2, batch(20, 0, 20, 0, 100, 100)), 0, 2, 2, api.OK, api.OK},
		"nothing, and thick":     {plain(100, 12, batch(20, 0, 20, 0, 100, 100)), 0, 1, 12, api.OK, api.OK},
		"one too rough":          {plain(10, 2, batch(21, 0, 20, 1, 100, 100)), 0, 0, 1, api.ErrNone, api.OK},
		"the second batch":       {plain(10, 2, still, batch(10, 0, 10, 1, 100, 100)), 1, 1, 0, api.OK, api.OK},
		"thin before it can be":  {plain(10, 3, batch(30, 0, 30, 25, 100, 100)), 0, 3, 0, api.OK, api.OK},
		"of the acid that is in": {drumG(), 0, 2, 1, api.OK, api.OK},
	} {
		if got, e := drum.Smooth(x.d, x.batch); e != x.e || got != x.smooth {
			t.Errorf("%s: Smooth %d, error %d", name, got, e)
		}
		if got, e := drum.Thin(x.d, x.batch); e != x.g || got != x.thin {
			t.Errorf("%s: Thin %d, error %d", name, got, e)
		}
	}
	for _, n := range []int{-1, 3, 1 << 62, -1 << 63} {
		for name, d := range map[string]api.DrumDrum{"d": drumD(), "one not possible": torn()} {
			hour, e := drum.Smooth(d, n)
			wantError(t, name+", Smooth of a batch that there is not", e, api.ErrArg, hour)
			hour, e = drum.Thin(d, n)
			wantError(t, name+", Thin of a batch that there is not", e, api.ErrArg, hour)
		}
	}
}

// P3.4: Smooth and Thin return what all truths give; a batch is smooth after all later hours, and thick enough after all earlier ones.
func TestSmoothAndThinByTrying(t *testing.T) {
	d := dice(13)
	var smooth, rough, thick, thin int
	for range 500 {
		x, _ := drumBy(&d)
		truths := allTruths(x)
		for n, b := range x.Batches {
			first, last := x.Hours+1, -1
			for hour := x.Hours; hour >= 0; hour-- {
				if is, _ := isFine(b, truths, hour); is {
					first = hour
				}
			}
			for hour := range x.Hours + 1 {
				if _, is := isFine(b, truths, hour); is {
					last = hour
				}
			}
			hour, e := drum.Smooth(x, n)
			switch {
			case first > x.Hours:
				rough++
				wantError(t, "Smooth by chance", e, api.ErrNone, hour)
			case e != api.OK || hour != first:
				t.Fatalf("%v, batch %d: Smooth %d, error %d, want %d", x, n, hour, e, first)
			case hour > 0:
				smooth++
			}
			hour, e = drum.Thin(x, n)
			switch {
			case last < 0:
				wantError(t, "Thin by chance", e, api.ErrNone, hour)
			case e != api.OK || hour != last:
				t.Fatalf("%v, batch %d: Thin %d, error %d, want %d", x, n, hour, e, last)
			case hour < x.Hours:
				thin++
			default:
				thick++
			}
			wantSteady(t, x, truths, n, first, last)
		}
	}
	if smooth < 100 || rough < 50 || thick < 100 || thin < 100 {
		t.Errorf("%d smooth later, %d never, %d always thick enough, %d no longer", smooth, rough, thick, thin)
	}
}

// wantSteady fails unless a batch surely is smooth from one hour on, and thick enough up to another one, and in no other hours.
func wantSteady(t *testing.T, x api.DrumDrum, truths []api.DrumTruth, n, first, last int) {
	t.Helper()
	for hour := range x.Hours + 1 {
		smooth, thick := isFine(x.Batches[n], truths, hour)
		if smooth != (hour >= first) || thick != (hour <= last) {
			t.Fatalf("%v, batch %d after %d: %v and %v, but from %d on and up to %d", x, n, hour, smooth, thick, first, last)
		}
	}
}
