package card_test

import (
	"slices"
	"testing"

	"nacre/api"
	"nacre/card"
)

// wantTold fails unless Agree, Known, Total and Buttons return what is known of a round.
func wantTold(t *testing.T, r api.CardRound, k told) {
	t.Helper()
	if is, e := card.Agree(r); e != api.OK || is != k.agrees() {
		t.Fatalf("%v: agrees %v, error %d", r, is, e)
	}
	known, e := card.Known(r)
	total, f := card.Total(r)
	weights, g := card.Buttons(r)
	if !k.agrees() {
		wantError(t, "Known", e, api.ErrRule, known)
		wantError(t, "Total", f, api.ErrRule, total)
		wantError(t, "Buttons", g, api.ErrRule, weights)
		return
	}
	if e != api.OK || !slices.Equal(known, k.known()) {
		t.Fatalf("%v: known %v, error %d, want %v", r, known, e, k.known())
	}
	if f != api.OK || total != k.total.Span {
		t.Fatalf("%v: total %v, error %d, want %v", r, total, f, k.total)
	}
	if g != api.OK || weights != k.weights.Span {
		t.Fatalf("%v: a button %v, error %d, want %v", r, weights, g, k.weights)
	}
}

// wantWrong fails unless Wrong and Mends return what is known of a round, if each house is doubted; it returns how many can be wrong.
func wantWrong(t *testing.T, r api.CardRound, k told, without func(api.CardRound, int) told) int {
	t.Helper()
	var want []int
	for house := range r.Houses {
		mended := without(r, house)
		s, e := card.Mends(r, house)
		if !mended.agrees() {
			wantError(t, "Mends", e, api.ErrRule, s)
			continue
		}
		want = append(want, house)
		if e != api.OK || s != mended.known()[house] {
			t.Fatalf("%v, house %d: %v, error %d, want %v", r, house, s, e, mended.known()[house])
		}
	}
	wrong, e := card.Wrong(r)
	switch {
	case k.agrees():
		wantError(t, "Wrong of a round that agrees", e, api.ErrRule, wrong)
		return 0
	case len(want) == 0:
		wantError(t, "Wrong without such a house", e, api.ErrNone, wrong)
	case e != api.OK || !slices.Equal(wrong, want):
		t.Fatalf("%v: %v, error %d, want %v", r, wrong, e, want)
	}
	return len(want)
}

// P6.2: Known, Total and Buttons of the chapter's round, and of rounds near it.
func TestKnownOfR(t *testing.T) {
	spans := func(l ...api.Span) []api.Span { return l }
	for name, x := range map[string]struct {
		r              api.CardRound
		known          []api.Span
		total, weights api.Span
	}{
		"r":         {roundR(), spans(span(54, 56), span(44, 46)), only(100), only(3)},
		"Off 1":     {changed(func(r *api.CardRound) { r.Off = 1 }), spans(span(54, 56), span(44, 46)), span(99, 101), only(3)},
		"Off 100":   {changed(func(r *api.CardRound) { r.Off = 100 }), spans(span(54, 56), span(44, 46)), span(98, 102), only(3)},
		"All 102":   {changed(func(r *api.CardRound) { r.All = 102 }), spans(only(56), only(46)), only(102), only(3)},
		"All 98":    {changed(func(r *api.CardRound) { r.All = 98 }), spans(only(54), only(44)), only(98), only(3)},
		"Out 55":    {changed(func(r *api.CardRound) { r.Houses[0].Out = 55 }), spans(span(54, 55), span(45, 46)), only(100), only(3)},
		"the least": {bareRound(), spans(only(0)), only(0), only(1)},
		// 50 buttons of 2 weigh 100, and 33 of 3 weigh 99
		"two weights": {api.CardRound{Per: 10, Button: span(2, 3), Slack: 1, All: 40, Off: 10, Houses: []api.CardHouse{{Out: 60, Cards: 9, Full: 4, Loose: 1, Miss: 2, Weighed: 100}}}, spans(span(33, 50)), span(33, 50), span(2, 3)},
	} {
		known, e := card.Known(x.r)
		total, f := card.Total(x.r)
		weights, g := card.Buttons(x.r)
		if e != api.OK || f != api.OK || g != api.OK || !slices.Equal(known, x.known) || total != x.total || weights != x.weights {
			t.Errorf("%s: %v, %v, %v, errors %d, %d, %d", name, known, total, weights, e, f, g)
		}
	}
}

// P6.2: Known, Total and Buttons have ErrArg for a round that is not as defined, and ErrRule for one that does not agree.
func TestKnownOfOthers(t *testing.T) {
	check := func(name string, r api.CardRound, want api.Errno) {
		t.Helper()
		known, e := card.Known(r)
		wantError(t, name, e, want, known)
		s, e := card.Total(r)
		wantError(t, name, e, want, s)
		s, e = card.Buttons(r)
		wantError(t, name, e, want, s)
	}
	for name, r := range badRounds() {
		check(name, r, api.ErrArg)
	}
	check("q", roundQ(), api.ErrRule)
	check("the most", fullRound(), api.ErrRule)
	check("All 103", changed(func(r *api.CardRound) { r.All = 103 }), api.ErrRule)
	check("light buttons", changed(func(r *api.CardRound) { r.Button = span(1, 2) }), api.ErrRule)
}

// P6.1, P6.2 and P6.3: what is told of small rounds is what all truths say.
func TestSmallRounds(t *testing.T) {
	d := dice(2)
	agree, disagree, wide, mended := 0, 0, 0, 0
	for range 1500 {
		r, _ := roundBy(&d, small())
		for range d.upTo(2) {
			miscount(&d, r, d.upTo(len(r.Houses)-1))
		}
		k := tried(r, nobody)
		wantTold(t, r, k)
		if k.agrees() {
			agree++
			wide += k.weights.High - k.weights.Low
		} else {
			disagree++
		}
		mended += wantWrong(t, r, k, tried)
	}
	if agree < 300 || disagree < 300 || wide < 100 || mended < 100 {
		t.Errorf("%d agree, %d do not, %d more weights, %d mended", agree, disagree, wide, mended)
	}
}

// P6.1, P6.2 and P6.3: what is told of large rounds is what the sums say that all houses can have brought.
func TestLargeRounds(t *testing.T) {
	d := dice(3)
	agree, disagree, wide, mended := 0, 0, 0, 0
	for range 300 {
		r, _ := roundBy(&d, large())
		for range d.upTo(2) {
			miscount(&d, r, d.upTo(len(r.Houses)-1))
		}
		k := summed(r, nobody)
		wantTold(t, r, k)
		if k.agrees() {
			agree++
			wide += k.weights.High - k.weights.Low
		} else {
			disagree++
		}
		mended += wantWrong(t, r, k, summed)
	}
	if agree < 80 || disagree < 80 || wide < 20 || mended < 50 {
		t.Errorf("%d agree, %d do not, %d more weights, %d mended", agree, disagree, wide, mended)
	}
}

// P6.2 and P0.6: a round of which there is a truth agrees, and what is true lies within the bounds.
func TestAnyTruth(t *testing.T) {
	d := dice(4)
	for range 2000 {
		r, x := roundBy(&d, large())
		if !isTruth(r, x, nobody) {
			t.Fatal(r, x)
		}
		is, e := card.Agree(r)
		known, f := card.Known(r)
		total, g := card.Total(r)
		weights, h := card.Buttons(r)
		if !is || e != api.OK || f != api.OK || g != api.OK || h != api.OK {
			t.Fatalf("%v: agrees %v, errors %d, %d, %d, %d", r, is, e, f, g, h)
		}
		all := 0
		for house, s := range known {
			n := buttonsOf(r, x, house)
			if n < s.Low || n > s.High {
				t.Fatalf("%v, %v: %v", r, x, known)
			}
			all += n
		}
		if all < total.Low || all > total.High || x.Button < weights.Low || x.Button > weights.High {
			t.Fatalf("%v, %v: %v, %v", r, x, total, weights)
		}
	}
}

// P6.3: Wrong and Mends of the chapter's rounds, and of rounds near them.
func TestWrongOfQ(t *testing.T) {
	// there are 3 buttons more than both houses have at most
	either := changed(func(r *api.CardRound) { r.All, r.Slack = 105, 30 })
	for name, x := range map[string]struct {
		r    api.CardRound
		want []int
		e    api.Errno
	}{
		"r":                    {roundR(), nil, api.ErrRule},
		"q":                    {roundQ(), []int{0}, api.OK},
		"either":               {either, []int{0, 1}, api.OK},
		"both":                 {changed(func(r *api.CardRound) { r.All = 130 }), nil, api.ErrNone},
		"one house":            {api.CardRound{Per: 2, Button: only(1), All: 5, Houses: []api.CardHouse{{Out: 9, Cards: 9, Weighed: 5}}}, []int{0}, api.OK},
		"one house, too heavy": {api.CardRound{Per: 2, Button: only(1), All: 5, Houses: []api.CardHouse{{Out: 9, Cards: 9, Weighed: 6}}}, nil, api.ErrNone},
		"the second one":       {changed(func(r *api.CardRound) { slices.Reverse(r.Houses); r.Houses[1].Weighed, r.All = 149, 91 }), []int{1}, api.OK},
	} {
		got, e := card.Wrong(x.r)
		if e != x.e || !slices.Equal(got, x.want) {
			t.Errorf("%s: %v, error %d", name, got, e)
		}
	}
	for name, x := range map[string]struct {
		r     api.CardRound
		house int
		want  api.Span
	}{
		"q, 0":      {roundQ(), 0, span(45, 46)},
		"r, 0":      {roundR(), 0, span(54, 56)},
		"r, 1":      {roundR(), 1, span(44, 46)},
		"either, 0": {either, 0, span(59, 60)},
		"either, 1": {either, 1, span(49, 50)},
	} {
		if got, e := card.Mends(x.r, x.house); e != api.OK || got != x.want {
			t.Errorf("%s: %v, error %d", name, got, e)
		}
	}
	got, e := card.Mends(roundQ(), 1)
	wantError(t, "q, 1", e, api.ErrRule, got)
}

// P6.3: Wrong and Mends have ErrArg for a round that is not as defined, and Mends for a house that is none, before ErrRule.
func TestWrongOfOthers(t *testing.T) {
	for name, r := range badRounds() {
		got, e := card.Wrong(r)
		wantError(t, name, e, api.ErrArg, got)
		s, e := card.Mends(r, 0)
		wantError(t, name, e, api.ErrArg, s)
	}
	for _, r := range []api.CardRound{roundR(), roundQ(), changed(func(r *api.CardRound) { r.All = 130 })} {
		for _, house := range []int{-1, 2, 3, far, -far - 1} {
			s, e := card.Mends(r, house)
			wantError(t, "a house", e, api.ErrArg, s)
		}
	}
}

// P6.3 and P0.6: if just one house counted wrong, and the round does not agree, it is among those that can be wrong, and its buttons lie within the bounds.
func TestOneWrong(t *testing.T) {
	d := dice(5)
	disagree, alone := 0, 0
	for range 1500 {
		r, x := roundBy(&d, large())
		house := d.upTo(len(r.Houses) - 1)
		miscount(&d, r, house)
		if !isTruth(r, x, house) {
			t.Fatal(r, x)
		}
		s, e := card.Mends(r, house)
		if n := buttonsOf(r, x, house); e != api.OK || n < s.Low || n > s.High {
			t.Fatalf("%v, %v: the house %d %v, error %d", r, x, house, s, e)
		}
		if is, _ := card.Agree(r); is {
			continue
		}
		wrong, e := card.Wrong(r)
		if e != api.OK || !slices.Contains(wrong, house) || !slices.IsSorted(wrong) {
			t.Fatalf("%v, %v: %v, error %d", r, x, wrong, e)
		}
		disagree++
		if len(wrong) == 1 && len(r.Houses) > 1 {
			alone++
		}
	}
	if disagree < 500 || alone < 100 {
		t.Errorf("%d do not agree, %d have one house that can be wrong", disagree, alone)
	}
}
