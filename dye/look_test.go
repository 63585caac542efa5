package dye_test

import (
	"slices"
	"testing"

	"nacre/api"
	"nacre/dye"
)

const (
	never  = api.DyeNever
	may    = api.DyeMay
	surely = api.DyeSurely
)

// P4.3: Look of the chapter's house.
func TestLookOfH(t *testing.T) {
	for name, x := range map[string]struct {
		lamp api.DyeLamp
		l    baths
		want api.Span
	}{
		"a, day":       {day(), batchA(), span(14, 21)},
		"a, gas":       {gas(), batchA(), span(-4, 3)},
		"b, day":       {day(), batchB(), span(10, 15)},
		"b, gas":       {gas(), batchB(), span(10, 15)},
		"below 0":      {lamp(-9, 0), batchA(), span(-135, -72)},
		"no weights":   {lamp(0, 0), batchA(), only(0)},
		"no baths":     {day(), nil, only(0)},
		"two not sure": {lamp(-2, 3), baths{bath(0, 0, 4, 5), bath(1, 2, 1, 3)}, span(-18, 20)},
		"full":         {lamp(9, -9), baths{bath(0, 2, 5, 5), bath(1, 2, 4, 6)}, span(180, 216)},
	} {
		if s, e := dye.Look(houseH(), x.lamp, x.l); e != api.OK || s != x.want {
			t.Errorf("%s: %v, error %d, want %v", name, s, e, x.want)
		}
	}
}

// P4.3: Apart of the chapter's house.
func TestApartOfH(t *testing.T) {
	for name, x := range map[string]struct {
		lamp api.DyeLamp
		a, b baths
		want api.Span
	}{
		"a and b, day":           {day(), batchA(), batchB(), span(3, 6)},
		"a and b, gas":           {gas(), batchA(), batchB(), span(-15, -12)},
		"b and a, day":           {day(), batchB(), batchA(), span(-6, -3)},
		"b and b":                {day(), batchB(), batchB(), only(0)},
		"hours of equal batches": {day(), batchA(), batchA(), span(-3, 3)},
		"takes of both":          {lamp(2, 0), baths{bath(0, 0, 2, 2)}, baths{bath(0, 2, 1, 1)}, span(-12, -4)},
		"no baths and b":         {day(), nil, batchB(), span(-15, -10)},
		"b and no baths":         {day(), batchB(), nil, span(10, 15)},
		"no baths":               {gas(), nil, nil, only(0)},
		"both full":              {day(), baths{bath(0, 2, 5, 5)}, baths{bath(0, 2, 6, 6)}, only(0)},
		"one full":               {day(), baths{bath(0, 2, 4, 4)}, baths{bath(0, 2, 6, 6)}, span(-8, 0)},
		"no weights":             {lamp(0, 0), batchA(), batchB(), only(0)},
	} {
		if s, e := dye.Apart(houseH(), x.lamp, x.a, x.b); e != api.OK || s != x.want {
			t.Errorf("%s: %v, error %d, want %v", name, s, e, x.want)
		}
	}
}

// P4.3: looks and differences are the least and the greatest ones over all truths; the other way about they have the other sign.
func TestLookAndApart(t *testing.T) {
	d := dice(4)
	wide, shared := 0, 0
	for range 400 {
		h := houseBy(&d, 4)
		a, b, x := batchBy(&d, h, 0, 2), batchBy(&d, h, 0, 2), lampBy(&d, h)
		all := worlds(h, a, b)
		look, e := dye.Look(h, x, a)
		if want := ends(all, func(w world) int { return w.look(h, x, a, 0) }); e != api.OK || look != want {
			t.Fatalf("%v, %v, %v: the look is %v, error %d, want %v", h, x, a, look, e, want)
		}
		apart, e := dye.Apart(h, x, a, b)
		if want := ends(all, func(w world) int { return w.apart(h, x, a, b) }); e != api.OK || apart != want {
			t.Fatalf("%v, %v, %v, %v: apart %v, error %d, want %v", h, x, a, b, apart, e, want)
		}
		turned, e := dye.Apart(h, x, b, a)
		if e != api.OK || turned != span(-apart.High, -apart.Low) {
			t.Fatalf("%v, %v, %v, %v: apart %v, and turned %v, error %d", h, x, a, b, apart, turned, e)
		}
		other, e := dye.Look(h, x, b)
		if e != api.OK {
			t.Fatal(h, x, b, e)
		}
		if apart.Low < apart.High {
			wide++
		}
		if apart != span(look.Low-other.High, look.High-other.Low) {
			shared++
		}
	}
	if wide < 30 || shared < 15 {
		t.Errorf("%d differences are not known, and of %d takes are shared", wide, shared)
	}
}

// P4.3: whatever is true, looks and differences lie within their bounds, of large houses too.
func TestLookAndApartOfTruths(t *testing.T) {
	d := dice(5)
	for range 500 {
		h := houseBy(&d, 99)
		a, b, x := batchBy(&d, h, 0, 99), batchBy(&d, h, 0, 99), lampBy(&d, h)
		look, e := dye.Look(h, x, a)
		apart, f := dye.Apart(h, x, a, b)
		turned, g := dye.Apart(h, x, b, a)
		if e != api.OK || f != api.OK || g != api.OK || turned != span(-apart.High, -apart.Low) {
			t.Fatal(h, x, a, b, look, apart, turned, e, f, g)
		}
		for range 5 {
			w := worldBy(&d, h, a, b)
			if n := w.look(h, x, a, 0); !holds(look, n) {
				t.Fatalf("%v, %v, %v: in %v the look is %d, not of %v", h, x, a, w, n, look)
			}
			if n := w.apart(h, x, a, b); !holds(apart, n) {
				t.Fatalf("%v, %v, %v, %v: in %v apart by %d, not of %v", h, x, a, b, w, n, apart)
			}
		}
	}
}

// P4.4: Words of the chapter's house.
func TestWordsOfH(t *testing.T) {
	both := []api.DyeLamp{day(), gas()}
	for name, x := range map[string]struct {
		lamps []api.DyeLamp
		a, b  baths
		eye   api.Span
		want  []api.DyeWord
	}{
		"6 to 8":           {both, batchA(), batchB(), span(6, 8), []api.DyeWord{surely, never}},
		"4":                {both, batchA(), batchB(), only(4), []api.DyeWord{may, never}},
		"3":                {both, batchA(), batchB(), only(3), []api.DyeWord{may, never}},
		"2":                {both, batchA(), batchB(), only(2), []api.DyeWord{never, never}},
		"2 to 3":           {both, batchA(), batchB(), span(2, 3), []api.DyeWord{may, never}},
		"5 to 6":           {both, batchA(), batchB(), span(5, 6), []api.DyeWord{may, never}},
		"11 to 12":         {both, batchA(), batchB(), span(11, 12), []api.DyeWord{surely, may}},
		"8 to 11":          {both, batchA(), batchB(), span(8, 11), []api.DyeWord{surely, never}},
		"gas, 14":          {both[1:], batchA(), batchB(), only(14), []api.DyeWord{may}},
		"gas, 15":          {both[1:], batchA(), batchB(), only(15), []api.DyeWord{surely}},
		"gas, turned, 15":  {both[1:], batchB(), batchA(), only(15), []api.DyeWord{surely}},
		"gas, turned, 11":  {both[1:], batchB(), batchA(), span(9, 11), []api.DyeWord{never}},
		"b and b, 0":       {both, batchB(), batchB(), only(0), []api.DyeWord{surely, surely}},
		"a and a, 0":       {both, batchA(), batchA(), only(0), []api.DyeWord{may, may}},
		"a and a, 3":       {both, batchA(), batchA(), only(3), []api.DyeWord{surely, surely}},
		"a lamp twice":     {slices.Repeat(both[:1], 3), batchA(), batchB(), only(4), []api.DyeWord{may, may, may}},
		"the greatest eye": {both, batchA(), batchB(), span(196, 200), []api.DyeWord{surely, surely}},
		"no baths, 0 to 4": {both, nil, nil, span(0, 4), []api.DyeWord{surely, surely}},
	} {
		if l, e := dye.Words(houseH(), x.lamps, x.a, x.b, x.eye); e != api.OK || !slices.Equal(l, x.want) {
			t.Errorf("%s: %v, error %d, want %v", name, l, e, x.want)
		}
	}
}

// P4.4: batches that differ by 1 or -1, or by 3, but never by 0, never are alike for an eye of 0, though 0 lies within the bounds.
func TestWordsOfGaps(t *testing.T) {
	h := houseOf(dyeOf(40, span(1, 3), only(2), only(0)), dyeOf(20, only(1), only(1), only(1)))
	a, b := baths{bath(0, 0, 1, 1), bath(1, 0, 1, 1)}, baths{bath(0, 1, 1, 1)}
	x := lamp(2, 1)
	if s, e := dye.Apart(h, x, a, b); e != api.OK || s != span(-1, 3) {
		t.Fatal(s, e)
	}
	for eye, want := range map[api.Span]api.DyeWord{only(0): never, only(1): may, span(0, 2): may, only(2): may, only(3): surely, span(2, 3): may} {
		if l, e := dye.Words(h, []api.DyeLamp{x}, a, b, eye); e != api.OK || !slices.Equal(l, []api.DyeWord{want}) {
			t.Errorf("%v: %v, error %d, want %d", eye, l, e, want)
		}
	}
}

// wordFor returns what is known of whether two batches are alike under a lamp, by trying all truths and numbers of the eye.
func wordFor(all []world, h api.DyeHouse, x api.DyeLamp, a, b baths, eye api.Span) api.DyeWord {
	alike, apart := false, false
	for _, w := range all {
		for n := eye.Low; n <= eye.High; n++ {
			is := size(w.apart(h, x, a, b)) <= n
			alike, apart = alike || is, apart || !is
		}
	}
	switch {
	case !apart:
		return surely
	case !alike:
		return never
	}
	return may
}

// P4.4: the words are those that all truths and all numbers of the eye give.
func TestWords(t *testing.T) {
	d := dice(6)
	count := map[api.DyeWord]int{}
	gapped := 0
	for range 500 {
		h := houseBy(&d, 4)
		a, b, lamps := batchBy(&d, h, 0, 2), batchBy(&d, h, 0, 2), lampsBy(&d, h)
		all := worlds(h, a, b)
		some := all[d.upTo(len(all)-1)]
		// an eye near what some truth needs
		need := min(size(some.apart(h, lamps[0], a, b)), api.DyeEye)
		eye := d.span(max(0, need-3), min(api.DyeEye, need+3), api.DyeVary)
		if d.upTo(2) == 0 {
			eye = d.span(0, 3, 1)
		}
		got, e := dye.Words(h, lamps, a, b, eye)
		if e != api.OK || len(got) != len(lamps) {
			t.Fatal(h, lamps, a, b, eye, got, e)
		}
		for i, x := range lamps {
			want := wordFor(all, h, x, a, b, eye)
			if got[i] != want {
				t.Fatalf("%v, %v, %v, %v, %v: %d, want %d", h, x, a, b, eye, got[i], want)
			}
			count[want]++
			s := ends(all, func(w world) int { return w.apart(h, x, a, b) })
			if want == never && s.Low <= eye.High && s.High >= -eye.High {
				gapped++
			}
		}
	}
	if count[never] < 30 || count[may] < 30 || count[surely] < 30 || gapped < 1 {
		t.Errorf("%v, %d by gaps alone", count, gapped)
	}
}

// P4.4 and P0.4: whatever is true, and for each number of the eye, what surely is so is, and what never is is not, of large houses too.
func TestWordsOfTruths(t *testing.T) {
	d := dice(7)
	count := map[api.DyeWord]int{}
	for range 500 {
		h := houseBy(&d, 99)
		a, lamps := batchBy(&d, h, 0, 99), lampsBy(&d, h)
		b := batchBy(&d, h, 0, 99)
		eye := d.span(0, api.DyeEye, api.DyeVary)
		got, e := dye.Words(h, lamps, a, b, eye)
		if e != api.OK {
			t.Fatal(h, lamps, a, b, eye, e)
		}
		for i, x := range lamps {
			count[got[i]]++
			for range 5 {
				w := worldBy(&d, h, a, b)
				is := size(w.apart(h, x, a, b)) <= d.in(eye)
				if got[i] == surely && !is || got[i] == never && is {
					t.Fatalf("%v, %v, %v, %v, %v: the word %d is wrong in %v", h, x, a, b, eye, got[i], w)
				}
			}
		}
	}
	if count[never] < 50 || count[may] < 50 || count[surely] < 50 {
		t.Error(count)
	}
}

// P4.5: Ripe of the chapter's house.
func TestRipeOfH(t *testing.T) {
	for name, x := range map[string]struct {
		lamp        api.DyeLamp
		l           baths
		dye, temper int
		want, ripe  api.Span
		e           api.Errno
	}{
		"b, 18 to 30":        {day(), batchB(), 1, 2, span(18, 30), span(2, 3), api.OK},
		"b, up to all":       {day(), batchB(), 1, 2, span(14, 35), span(1, 12), api.OK},
		"b, none needed":     {day(), batchB(), 1, 2, span(10, 15), only(0), api.OK},
		"b, too narrow":      {day(), batchB(), 1, 2, span(18, 22), api.Span{}, api.ErrNone},
		"b, narrow":          {day(), batchB(), 1, 2, span(18, 23), only(2), api.OK},
		"b, just too narrow": {day(), batchB(), 1, 2, span(19, 23), api.Span{}, api.ErrNone},
		"no baths":           {day(), nil, 0, 1, span(10, 25), span(2, 5), api.OK},
		"full":               {day(), nil, 0, 1, only(40), span(8, 12), api.OK},
		"more than full":     {day(), nil, 0, 1, span(41, 50), api.Span{}, api.ErrNone},
		"all":                {day(), nil, 0, 1, span(-3000, 3000), span(0, 12), api.OK},
		"a third bath":       {day(), slices.Repeat(batchB(), 2), 1, 0, span(21, 34), span(1, 4), api.OK},
		"the same temper":    {day(), batchB(), 0, 0, span(14, 24), span(2, 3), api.OK},
		"below 0":            {gas(), nil, 1, 1, span(-13, -6), span(2, 3), api.OK},
		"below 0, full":      {gas(), nil, 1, 1, span(-40, -37), span(10, 12), api.OK},
		"no weight":          {lamp(1, 0), batchB(), 1, 1, span(10, 15), span(0, 12), api.OK},
		"no weight, none":    {lamp(1, 0), batchB(), 1, 1, span(11, 15), api.Span{}, api.ErrNone},
		"the last hour":      {day(), nil, 1, 0, only(12), only(12), api.OK},
		"after the last":     {day(), nil, 1, 0, only(13), api.Span{}, api.ErrNone},
	} {
		s, e := dye.Ripe(houseH(), x.lamp, x.l, x.dye, x.temper, x.want)
		wantError(t, name, e, x.e, s)
		if s != x.ripe {
			t.Errorf("%s: %v, want %v", name, s, x.ripe)
		}
	}
}

// P4.5: for each number of hours that is returned all looks lie within the span; for the number before, and for the one after, not all do.
func TestRipe(t *testing.T) {
	d := dice(8)
	some, none := 0, 0
	for range 120 {
		h := houseBy(&d, 3)
		l, x := batchBy(&d, h, 1, 2), lampBy(&d, h)
		kind, temper := d.upTo(len(h.Dyes)-1), d.upTo(2)
		var looks [api.DyeHours + 1]api.Span
		for hours := range looks {
			more := append(slices.Clone(l), bath(kind, temper, hours, hours))
			looks[hours] = ends(worlds(h, more), func(w world) int { return w.look(h, x, more, 0) })
		}
		want := looks[d.upTo(api.DyeHours)]
		want = span(max(-api.DyeLook, want.Low-d.upTo(30)), min(api.DyeLook, want.High+d.from(-2, 30)))
		want.High = max(want.Low, want.High)
		first := slices.IndexFunc(looks[:], func(s api.Span) bool { return isIn(s, want) })
		got, e := dye.Ripe(h, x, l, kind, temper, want)
		if first < 0 {
			wantError(t, "none", e, api.ErrNone, got)
			none++
			continue
		}
		last := first
		for last < api.DyeHours && isIn(looks[last+1], want) {
			last++
		}
		if e != api.OK || got != span(first, last) {
			t.Fatalf("%v, %v, %v, %d, %d, %v: %v, error %d, want %d to %d", h, x, l, kind, temper, want, got, e, first, last)
		}
		if first > 0 && last < api.DyeHours {
			some++
		}
	}
	if some < 10 || none < 5 {
		t.Errorf("%d are ripe from some hour to some other one, %d never", some, none)
	}
}

// P4.5: whatever is true, a batch that is left in the bath for so many hours looks as it is wanted.
func TestRipeOfTruths(t *testing.T) {
	d := dice(9)
	some := 0
	for range 1000 {
		h := houseBy(&d, 99)
		l, x := batchBy(&d, h, 1, 99), lampBy(&d, h)
		kind, temper := d.upTo(len(h.Dyes)-1), d.upTo(2)
		want := d.span(-600, 600, 800)
		got, e := dye.Ripe(h, x, l, kind, temper, want)
		if e != api.OK {
			continue
		}
		some++
		for hours := got.Low; hours <= got.High; hours++ {
			more := append(slices.Clone(l), bath(kind, temper, hours, hours))
			w := worldBy(&d, h, more)
			if n := w.look(h, x, more, 0); !holds(want, n) {
				t.Fatalf("%v, %v, %v: after %d hours the look is %d in %v, not of %v", h, x, l, hours, n, w, want)
			}
		}
	}
	if some < 100 {
		t.Error(some)
	}
}

// wantBadLooks fails unless all functions about looks have ErrArg.
func wantBadLooks(t *testing.T, name string, h api.DyeHouse, x api.DyeLamp, l baths) {
	t.Helper()
	s, e := dye.Look(h, x, l)
	wantError(t, name+", Look", e, api.ErrArg, s)
	for _, y := range []baths{l, nil} {
		other := l
		if y != nil {
			other = nil
		}
		s, e = dye.Apart(h, x, y, other)
		wantError(t, name+", Apart", e, api.ErrArg, s)
		words, e := dye.Words(h, []api.DyeLamp{x}, y, other, only(4))
		wantError(t, name+", Words", e, api.ErrArg, words)
	}
	s, e = dye.Ripe(h, x, l, 0, 0, span(-3000, 3000))
	wantError(t, name+", Ripe", e, api.ErrArg, s)
}

// P4.3, P4.4, P4.5: ErrArg for houses, lamps and batches that are not as defined.
func TestLooksOfBadArguments(t *testing.T) {
	for name, h := range badHouses() {
		wantBadLooks(t, name, h, api.DyeLamp{Weights: make([]int, len(h.Dyes))}, nil)
	}
	for name, x := range badLamps() {
		wantBadLooks(t, name, houseH(), x, batchA())
		words, e := dye.Words(houseH(), []api.DyeLamp{day(), x}, batchA(), batchB(), only(4))
		wantError(t, name+" as the second one", e, api.ErrArg, words)
	}
	for name, l := range badBatches() {
		wantBadLooks(t, name, houseH(), day(), l)
	}
}

// P4.4: ErrArg for no lamps, for too many, and for spans that are no eyes.
func TestWordsOfBadArguments(t *testing.T) {
	for _, many := range []int{0, 4, 5, 1000000} {
		words, e := dye.Words(houseH(), slices.Repeat([]api.DyeLamp{day()}, many), batchA(), batchB(), only(4))
		wantError(t, "lamps", e, api.ErrArg, words)
	}
	for _, eye := range badEyes() {
		words, e := dye.Words(houseH(), []api.DyeLamp{day()}, batchA(), batchB(), eye)
		wantError(t, "an eye", e, api.ErrArg, words)
	}
}

// P4.5: ErrArg for a batch that has all baths, another dye or temper, and spans that are none.
func TestRipeOfBadArguments(t *testing.T) {
	for name, x := range map[string]struct {
		l           baths
		dye, temper int
		want        api.Span
	}{
		"3 baths":       {slices.Repeat(batchB(), 3), 0, 0, span(0, 100)},
		"the dye 2":     {batchB(), 2, 0, span(0, 100)},
		"the dye -1":    {batchB(), -1, 0, span(0, 100)},
		"the temper 3":  {batchB(), 0, 3, span(0, 100)},
		"the temper -1": {batchB(), 0, -1, span(0, 100)},
		"turned":        {batchB(), 0, 0, span(20, 19)},
		"to 3001":       {batchB(), 0, 0, span(0, 3001)},
		"from -3001":    {batchB(), 0, 0, span(-3001, 100)},
		"all":           {batchB(), 0, 0, span(-1<<63, 1<<63-1)},
		"above all":     {batchB(), 0, 0, only(3001)},
	} {
		s, e := dye.Ripe(houseH(), day(), x.l, x.dye, x.temper, x.want)
		wantError(t, name, e, api.ErrArg, s)
	}
}
