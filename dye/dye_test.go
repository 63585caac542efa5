package dye_test

import (
	"slices"
	"testing"

	"nacre/api"
	"nacre/dye"
)

// P4.1: Check returns OK for a house that is as defined, and ErrArg for others.
func TestCheck(t *testing.T) {
	full, _ := fullHouse()
	for name, h := range map[string]api.DyeHouse{
		"h":           houseH(),
		"the most":    full,
		"the least":   houseOf(dyeOf(0, only(0), only(0), only(0))),
		"equal dyes":  houseOf(houseH().Dyes[0], houseH().Dyes[0]),
		"drifts of 2": houseOf(dyeOf(100, span(0, 2), span(18, 20), span(7, 9))),
	} {
		wantError(t, name, dye.Check(h), api.OK)
	}
	for name, h := range badHouses() {
		wantError(t, name, dye.Check(h), api.ErrArg)
	}
}

// P4.1: Fits tells truths from others, and Run has the depths of truths alone.
func TestFitsOfH(t *testing.T) {
	for name, x := range map[string]struct {
		takes [][]int
		hours []int
		want  []int
	}{
		"the least":       {[][]int{{2, 5, 8}, {1, 2, 4}}, []int{4, 3}, []int{8, 6}},
		"the most":        {[][]int{{3, 5, 10}, {1, 2, 4}}, []int{5, 3}, []int{15, 6}},
		"one between":     {[][]int{{2, 5, 9}, {1, 2, 4}}, []int{5, 3}, []int{10, 6}},
		"hours above":     {[][]int{{3, 5, 10}, {1, 2, 4}}, []int{6, 3}, nil},
		"hours below":     {[][]int{{3, 5, 10}, {1, 2, 4}}, []int{5, 2}, nil},
		"takes below":     {[][]int{{1, 5, 8}, {1, 2, 4}}, []int{4, 3}, nil},
		"takes above":     {[][]int{{2, 5, 11}, {1, 2, 4}}, []int{4, 3}, nil},
		"of the dye 1":    {[][]int{{2, 5, 8}, {1, 2, 5}}, []int{4, 3}, nil},
		"of no bath":      {[][]int{{2, 6, 8}, {1, 2, 4}}, []int{4, 3}, nil},
		"far too much":    {[][]int{{2, 5, 1<<63 - 1}, {1, 2, 4}}, []int{4, 3}, nil},
		"far too little":  {[][]int{{2, 5, 8}, {1, 2, 4}}, []int{-1 << 63, 3}, nil},
		"hours turned up": {[][]int{{2, 5, 8}, {1, 2, 4}}, []int{3, 4}, nil},
	} {
		y := api.DyeTruth{Takes: x.takes, Hours: x.hours}
		if fits, e := dye.Fits(houseH(), batchA(), y); e != api.OK || fits != (x.want != nil) {
			t.Errorf("%s: Fits %v, error %d", name, fits, e)
		}
		depths, e := dye.Run(houseH(), batchA(), y)
		if x.want == nil {
			wantError(t, name, e, api.ErrArg, depths)
		} else if e != api.OK || !slices.Equal(depths, x.want) {
			t.Errorf("%s: Run %v, error %d, want %v", name, depths, e, x.want)
		}
	}
}

// P4.1: Fits and Run have ErrArg for lists that have not a number for each temper of each dye, and for each bath.
func TestFitsOfOtherLists(t *testing.T) {
	takes := func() [][]int { return [][]int{{2, 5, 8}, {1, 2, 4}} }
	for name, y := range map[string]api.DyeTruth{
		"nothing":         {},
		"no takes":        {Hours: []int{4, 3}},
		"no hours":        {Takes: takes()},
		"an hour less":    {Takes: takes(), Hours: []int{4}},
		"an hour more":    {Takes: takes(), Hours: []int{4, 3, 3}},
		"a dye less":      {Takes: takes()[:1], Hours: []int{4, 3}},
		"a dye more":      {Takes: append(takes(), []int{1, 2, 4}), Hours: []int{4, 3}},
		"a temper less":   {Takes: [][]int{{2, 5, 8}, {1, 2}}, Hours: []int{4, 3}},
		"a temper more":   {Takes: [][]int{{2, 5, 8, 8}, {1, 2, 4}}, Hours: []int{4, 3}},
		"no temper":       {Takes: [][]int{nil, {1, 2, 4}}, Hours: []int{4, 3}},
		"and no truth":    {Takes: [][]int{{99, 5, 8}, {1, 2}}, Hours: []int{4, 3}},
		"and many lists":  {Takes: make([][]int, 1000000), Hours: []int{4, 3}},
		"and many hours":  {Takes: takes(), Hours: make([]int, 1000000)},
		"takes for hours": {Takes: [][]int{{4, 3}}, Hours: []int{2, 5, 8}},
	} {
		fits, e := dye.Fits(houseH(), batchA(), y)
		wantError(t, name+", Fits", e, api.ErrArg, fits)
		depths, e := dye.Run(houseH(), batchA(), y)
		wantError(t, name+", Run", e, api.ErrArg, depths)
	}
	// a batch without baths has truths too, of no hours
	y := api.DyeTruth{Takes: takes()}
	if fits, e := dye.Fits(houseH(), nil, y); e != api.OK || !fits {
		t.Errorf("no baths: Fits %v, error %d", fits, e)
	}
	if depths, e := dye.Run(houseH(), nil, y); e != api.OK || !slices.Equal(depths, []int{0, 0}) {
		t.Errorf("no baths: Run %v, error %d", depths, e)
	}
}

// P4.1, P4.2: Fits, Run and Known have ErrArg for a house or a batch that is not as defined.
func TestDepthsOfBadArguments(t *testing.T) {
	y := api.DyeTruth{Takes: [][]int{{1, 1, 1}, {1, 1, 1}}, Hours: []int{1}}
	check := func(name string, h api.DyeHouse, l baths) {
		t.Helper()
		x := y
		x.Takes = slices.Repeat([][]int{{1, 1, 1}}, len(h.Dyes))
		x.Hours = slices.Repeat([]int{1}, len(l))
		fits, e := dye.Fits(h, l, x)
		wantError(t, name+", Fits", e, api.ErrArg, fits)
		depths, e := dye.Run(h, l, x)
		wantError(t, name+", Run", e, api.ErrArg, depths)
		known, e := dye.Known(h, l)
		wantError(t, name+", Known", e, api.ErrArg, known)
	}
	for name, h := range badHouses() {
		check(name, h, baths{bath(0, 0, 1, 1)})
		check(name+", no baths", h, nil)
	}
	for name, l := range badBatches() {
		check(name, houseH(), l)
	}
}

// P4.1: all numbers of a truth are as they must be; whatever else differs from them by 1, beyond a span, is none.
func TestFits(t *testing.T) {
	d := dice(1)
	for range 400 {
		h := houseBy(&d, 99)
		l := batchBy(&d, h, 0, 99)
		w := worldBy(&d, h, l)
		if fits, e := dye.Fits(h, l, w.truth(0)); e != api.OK || !fits {
			t.Fatalf("%v, %v: %v does not fit, error %d", h, l, w, e)
		}
		if depths, e := dye.Run(h, l, w.truth(0)); e != api.OK || !slices.Equal(depths, w.depths(h, l, 0)) {
			t.Fatalf("%v, %v: %v gives %v, error %d", h, l, w, depths, e)
		}
		kind, temper := d.upTo(len(h.Dyes)-1), d.upTo(2)
		s, place := h.Dyes[kind].Takes[temper], &w.takes[kind][temper]
		if len(l) > 0 && d.upTo(1) == 0 {
			i := d.upTo(len(l) - 1)
			s, place = l[i].Hours, &w.hours[0][i]
		}
		*place = []int{s.Low - 1, s.High + 1}[d.upTo(1)]
		if fits, e := dye.Fits(h, l, w.truth(0)); e != api.OK || fits {
			t.Fatalf("%v, %v: %v fits, error %d", h, l, w, e)
		}
		depths, e := dye.Run(h, l, w.truth(0))
		wantError(t, "no truth", e, api.ErrArg, depths)
	}
}

// P4.2: the chapter's examples, and what is full.
func TestKnownOfH(t *testing.T) {
	for name, x := range map[string]struct {
		l    baths
		want []api.Span
	}{
		"a":               {batchA(), []api.Span{span(8, 15), only(6)}},
		"b":               {batchB(), []api.Span{span(10, 15), only(0)}},
		"no baths":        {nil, []api.Span{only(0), only(0)}},
		"full at most":    {baths{bath(0, 2, 4, 5), bath(1, 2, 4, 6)}, []api.Span{span(32, 40), span(16, 20)}},
		"full":            {baths{bath(0, 2, 5, 6), bath(1, 2, 5, 5)}, []api.Span{only(40), only(20)}},
		"full in some":    {baths{bath(0, 1, 4, 4), bath(0, 1, 4, 4), bath(1, 2, 12, 12)}, []api.Span{only(40), only(20)}},
		"the same temper": {baths{bath(0, 0, 1, 2), bath(0, 0, 0, 1), bath(0, 0, 3, 3)}, []api.Span{span(8, 18), only(0)}},
		"other tempers":   {baths{bath(0, 0, 1, 2), bath(0, 1, 3, 3), bath(0, 0, 0, 1)}, []api.Span{span(17, 24), only(0)}},
		"no hours":        {baths{bath(0, 2, 0, 0), bath(1, 2, 0, 2)}, []api.Span{only(0), span(0, 8)}},
	} {
		if known, e := dye.Known(houseH(), x.l); e != api.OK || !slices.Equal(known, x.want) {
			t.Errorf("%s: %v, error %d, want %v", name, known, e, x.want)
		}
	}
	none := houseOf(dyeOf(0, span(18, 20), span(18, 20), span(18, 20)))
	if known, e := dye.Known(none, baths{bath(0, 0, 10, 12)}); e != api.OK || !slices.Equal(known, []api.Span{only(0)}) {
		t.Errorf("a Full of 0: %v, error %d", known, e)
	}
}

// P4.2: the bounds are the least and the greatest depths over all truths, and each end of all dyes is so in one truth.
func TestKnown(t *testing.T) {
	d := dice(2)
	wide := 0
	for range 150 {
		h := houseBy(&d, 4)
		l := batchBy(&d, h, 0, 3)
		known, e := dye.Known(h, l)
		if e != api.OK || len(known) != len(h.Dyes) {
			t.Fatal(h, l, known, e)
		}
		all := worlds(h, l)
		var least, most []int
		for kind, s := range known {
			if want := ends(all, func(w world) int { return w.depths(h, l, 0)[kind] }); s != want {
				t.Fatalf("%v, %v: the depth of %d is %v, want %v", h, l, kind, s, want)
			}
			least, most = append(least, s.Low), append(most, s.High)
			if s.Low < s.High {
				wide++
			}
		}
		for _, want := range [][]int{least, most} {
			if !slices.ContainsFunc(all, func(w world) bool { return slices.Equal(w.depths(h, l, 0), want) }) {
				t.Fatalf("%v, %v: the depths %v are so in no truth", h, l, want)
			}
		}
	}
	if wide < 30 {
		t.Errorf("%d depths are not known", wide)
	}
}

// P4.2: whatever is true, each depth lies within its bounds, of large houses too.
func TestKnownOfTruths(t *testing.T) {
	d := dice(3)
	for range 1000 {
		h := houseBy(&d, 99)
		l := batchBy(&d, h, 0, 99)
		known, e := dye.Known(h, l)
		if e != api.OK {
			t.Fatal(h, l, e)
		}
		w := worldBy(&d, h, l)
		for kind, depth := range w.depths(h, l, 0) {
			if !holds(known[kind], depth) {
				t.Fatalf("%v, %v: in %v the depth of %d is %d, not of %v", h, l, w, kind, depth, known[kind])
			}
		}
	}
}
