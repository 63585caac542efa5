package drum_test

import (
	"slices"
	"testing"

	"nacre/api"
	"nacre/drum"
)

// P3.1: Check returns OK for a drum that is as defined, possible or not, and ErrArg for others.
func TestCheck(t *testing.T) {
	least := plain(0, 1, batch(0, 0, 0, 0, 0, 0))
	most := full()
	most.Acids[0], most.Strips[0] = acid(0, 100, 0, 20), strip(11, 2000, 50)
	for name, d := range map[string]api.DrumDrum{
		"d": drumD(), "e": drumE(), "f": drumF(), "g": drumG(), "not possible": torn(), "the least": least, "the most": most,
		"the second known":  changed(func(d *api.DrumDrum) { d.Known = 2 }),
		"the same twice":    changed(func(d *api.DrumDrum) { d.Strips = slices.Repeat(d.Strips, 2) }),
		"seen 0":            changed(func(d *api.DrumDrum) { d.Strips[0] = strip(0, 0, 0) }),
		"a Goal above":      changed(func(d *api.DrumDrum) { d.Batches[0] = batch(5, 1000, 0, 1000, 0, 100) }),
		"equal acids":       changed(func(d *api.DrumDrum) { d.Acids[1] = d.Acids[0] }),
		"the greatest ends": changed(func(d *api.DrumDrum) { d.Acids[0] = acid(100, 100, 20, 20) }),
	} {
		wantError(t, name, drum.Check(d), api.OK)
	}
	wantError(t, "nothing", drum.Check(api.DrumDrum{}), api.ErrArg)
	for name, change := range badDrums() {
		wantError(t, name, drum.Check(changed(change)), api.ErrArg)
	}
}

// P3.1 and others: all functions have ErrArg for a drum that is not as defined, and ErrRule for one that is not possible.
func TestBadDrums(t *testing.T) {
	for name, change := range badDrums() {
		d := changed(change)
		wantErrors(t, name, d, api.ErrArg)
		fits, e := drum.Fits(d, truth(0, 40, 35, 30, 25))
		wantError(t, name+", Fits", e, api.ErrArg, fits)
		states, e := drum.Run(d, truth(0, 40, 35, 30, 25), 1)
		wantError(t, name+", Run", e, api.ErrArg, states)
	}
	strips := func(l ...api.DrumStrip) api.DrumDrum { return changed(func(d *api.DrumDrum) { d.Strips = l }) }
	for name, d := range map[string]api.DrumDrum{
		"a strip above":          torn(),
		"a strip just above":     strips(strip(0, 85, 4)),
		"a strip just below":     strips(strip(0, 30, 9)),
		"between the acids":      strips(strip(0, 55, 4)),
		"two that differ":        strips(strip(1, 40, 2), strip(1, 45, 2)),
		"of another acid later":  strips(strip(0, 45, 5), strip(3, 20, 4)),
		"of another acid before": strips(strip(3, 20, 4), strip(0, 45, 5)),
		"it fell too slowly":     strips(strip(0, 60, 0), strip(1, 51, 0)),
		"of one not known":       changed(func(d *api.DrumDrum) { d.Known, d.Strips[0].Seen = 1, 60 }),
		"weaker than what is in": changed(func(d *api.DrumDrum) { d.Adds[1], d.Strips[0] = 90, strip(1, 89, 0) }),
	} {
		wantErrors(t, name, d, api.ErrRule)
		wantError(t, name, drum.Check(d), api.OK)
		fits, e := drum.Fits(d, truth(0, 40, 35, 30, 25))
		if e != api.OK || fits {
			t.Errorf("%s: Fits %v, error %d", name, fits, e)
		}
		states, e := drum.Run(d, truth(0, 40, 35, 30, 25), 1)
		wantError(t, name+", Run", e, api.ErrArg, states)
	}
}

// P3.1: Fits reports whether something is a truth.
func TestFits(t *testing.T) {
	adds := func(n ...int) api.DrumDrum {
		return changed(func(d *api.DrumDrum) { d.Adds, d.Strips = n, nil })
	}
	for name, x := range map[string]struct {
		d    api.DrumDrum
		y    api.DrumTruth
		want bool
	}{
		"weakest":                  {drumD(), truth(0, 40, 35, 30, 25), true},
		"strongest":                {drumD(), truth(0, 50, 45, 40, 35), true},
		"too weak":                 {drumD(), truth(0, 39, 34, 29, 24), false},
		"too strong":               {drumD(), truth(0, 51, 46, 41, 36), false},
		"it falls too little":      {drumD(), truth(0, 40, 36, 31, 26), false},
		"it falls too much":        {drumD(), truth(0, 40, 35, 30, 24), false},
		"the other acid":           {drumD(), truth(1, 60, 40, 20, 0), true},
		"one acid as another":      {drumD(), truth(1, 40, 35, 30, 25), false},
		"not as the strip shows":   {drumD(), truth(1, 66, 46, 26, 6), false},
		"at the end of the strip":  {drumD(), truth(1, 65, 45, 26, 6), true},
		"below the strip":          {drumG(), truth(1, 74, 54, 40, 30), false},
		"one that is not known":    {changed(func(d *api.DrumDrum) { d.Known = 2 }), truth(0, 40, 35, 30, 25), false},
		"nothing is left":          {drumD(), truth(1, 60, 40, 20, 10), true},
		"nothing, and falls more":  {adds(0, 0, 0, 0), truth(1, 60, 40, 20, 0), true},
		"below nothing":            {adds(0, 0, 0, 0), truth(1, 60, 40, 20, -1), false},
		"what is put in":           {adds(1, 0, 2, 100), truth(0, 41, 36, 33, 128), true},
		"not all that is put in":   {adds(1, 0, 2, 100), truth(0, 41, 36, 33, 127), false},
		"put in before the fall":   {adds(0, 0, 0, 10), truth(1, 60, 40, 20, 0), false},
		"put in after the fall":    {adds(0, 0, 0, 10), truth(1, 60, 40, 20, 10), true},
		"the most that there is":   {drumD(), truth(0, 1<<62, 1<<62, 1<<62, 1<<62), false},
		"the least that there is":  {drumD(), truth(0, -1<<63, -1<<63, -1<<63, -1<<63), false},
		"a fall that runs over":    {drumD(), truth(0, 40, -1<<63, 1<<63-1, 0), false},
		"all hours but the last":   {drumD(), truth(0, 40, 35, 30, 1<<63-1), false},
		"not right from the start": {drumD(), truth(0, 0, 40, 35, 30), false},
	} {
		if got, e := drum.Fits(x.d, x.y); e != api.OK || got != x.want {
			t.Errorf("%s: %v, error %d", name, got, e)
		}
	}
	for name, y := range map[string]api.DrumTruth{
		"no acid": truth(-1, 40, 35, 30, 25), "a third acid": truth(2, 40, 35, 30, 25), "acid 64": truth(64, 40, 35, 30, 25),
		"acid 1 << 62": truth(1<<62, 40, 35, 30, 25), "3 hours": truth(0, 40, 35, 30), "5 hours": truth(0, 40, 35, 30, 25, 20), "nothing": {},
	} {
		fits, e := drum.Fits(drumD(), y)
		wantError(t, name, e, api.ErrArg, fits)
		fits, e = drum.Fits(torn(), y)
		wantError(t, name+" of a drum that is not possible", e, api.ErrArg, fits)
	}
}

// P3.1: Fits holds for all truths, and for no other lists near them.
func TestFitsByTrying(t *testing.T) {
	d := dice(1)
	yes, no := 0, 0
	for range 300 {
		x, _ := drumBy(&d)
		truths := allTruths(x)
		for range 40 {
			y := truths[d.upTo(len(truths)-1)]
			z := truth(y.Acid, slices.Clone(y.Strength)...)
			for range d.upTo(2) {
				z.Strength[d.upTo(x.Hours-1)] += d.from(-2, 2)
			}
			if d.upTo(9) == 0 {
				z.Acid = d.upTo(len(x.Acids) - 1)
			}
			want := slices.ContainsFunc(truths, func(y api.DrumTruth) bool {
				return y.Acid == z.Acid && slices.Equal(y.Strength, z.Strength)
			})
			if got, e := drum.Fits(x, z); e != api.OK || got != want {
				t.Fatalf("%v, %v: %v, error %d", x, z, got, e)
			}
			if want {
				yes++
			} else {
				no++
			}
		}
	}
	if yes < 1000 || no < 1000 {
		t.Errorf("%d truths, %d others", yes, no)
	}
}

// P3.1: Could returns the acids that are possible; the chapter's examples among others.
func TestCould(t *testing.T) {
	strips := func(known int, l ...api.DrumStrip) api.DrumDrum {
		return changed(func(d *api.DrumDrum) { d.Known, d.Strips = known, l })
	}
	for name, x := range map[string]struct {
		d    api.DrumDrum
		want []int
	}{
		"d":                             {drumD(), []int{0, 1}},
		"g":                             {drumG(), []int{1}},
		"no strips":                     {strips(3), []int{0, 1}},
		"the first one known":           {strips(1), []int{0}},
		"the second one known":          {strips(2), []int{1}},
		"the end of a strip":            {strips(3, strip(0, 55, 5)), []int{0, 1}},
		"not the end of one":            {strips(3, strip(0, 56, 5)), []int{1}},
		"from below":                    {strips(3, strip(0, 35, 5)), []int{0}},
		"from above":                    {strips(3, strip(0, 85, 5)), []int{1}},
		"two that leave one":            {strips(3, strip(0, 55, 5), strip(1, 40, 5)), []int{0, 1}},
		"two that leave the first one":  {strips(3, strip(1, 40, 5), strip(3, 30, 6)), []int{0, 1}},
		"two that leave the second one": {strips(3, strip(1, 40, 5), strip(3, 0, 20)), []int{1}},
	} {
		if got, e := drum.Could(x.d); e != api.OK || !slices.Equal(got, x.want) {
			t.Errorf("%s: %v, error %d", name, got, e)
		}
	}
}

// wantBounds returns what the acids and strengths of a drum can be, by all of its truths; false if there is none.
func wantBounds(x api.DrumDrum) ([]int, []api.Span, bool) {
	truths := allTruths(x)
	if len(truths) == 0 {
		return nil, nil, false
	}
	var strength []api.Span
	for hour := range x.Hours {
		strength = append(strength, strengthAt(truths, hour))
	}
	return acidsOf(truths), strength, true
}

// P3.1 and P3.2: Could and Strength return what all truths give, and ErrRule if there is none.
func TestCouldAndStrengthByTrying(t *testing.T) {
	d := dice(2)
	none, fewer, zero := 0, 0, 0
	for range 2000 {
		x, _ := drumBy(&d)
		if d.upTo(2) == 0 {
			x.Strips = append(x.Strips, strip(d.upTo(x.Hours-1), d.upTo(20), d.upTo(5)))
		}
		could, strength, ok := wantBounds(x)
		if !ok {
			none++
			wantErrors(t, "no truth", x, api.ErrRule)
			continue
		}
		if got, e := drum.Could(x); e != api.OK || !slices.Equal(got, could) {
			t.Fatalf("%v: %v, error %d, want %v", x, got, e, could)
		}
		if got, e := drum.Strength(x); e != api.OK || !slices.Equal(got, strength) {
			t.Fatalf("%v: %v, error %d, want %v", x, got, e, strength)
		}
		if len(could) < len(x.Acids) {
			fewer++
		}
		if strength[x.Hours-1].Low == 0 && strength[0].Low > 0 {
			zero++
		}
	}
	if none < 50 || fewer < 100 || zero < 100 {
		t.Errorf("%d without a truth, %d with fewer acids, %d that end at nothing", none, fewer, zero)
	}
}

// P3.2: Strength returns the least and the greatest strength of each hour; the chapter's example among others.
func TestStrength(t *testing.T) {
	weak := plain(3, 3, batch(0, 0, 0, 0, 0, 0))
	weak.Acids[0].Fall = span(2, 9)
	again := weak
	again.Adds = []int{0, 0, 7}
	shown := weak
	shown.Strips = []api.DrumStrip{strip(1, 1, 0)}
	empty := plain(0, 3, batch(0, 0, 0, 0, 0, 0))
	empty.Acids[0] = acid(0, 20, 5, 8)
	empty.Strips = []api.DrumStrip{strip(1, 0, 0)}
	left := empty
	left.Strips = []api.DrumStrip{strip(1, 1, 0)}
	most := plain(100, 12, batch(0, 0, 0, 0, 0, 0))
	most.Adds = slices.Repeat([]int{100}, 12)
	var mostly []api.Span
	for hour := range 12 {
		mostly = append(mostly, span(100*(hour+2), 100*(hour+2)))
	}
	for name, x := range map[string]struct {
		d    api.DrumDrum
		want []api.Span
	}{
		"d":                           {drumD(), []api.Span{span(40, 65), span(35, 45), span(20, 40), span(0, 35)}},
		"g":                           {drumG(), []api.Span{span(65, 80), span(55, 65), span(35, 55), span(15, 45)}},
		"no weaker than nothing":      {weak, []api.Span{span(3, 3), span(0, 1), span(0, 0)}},
		"then something is put in":    {again, []api.Span{span(3, 3), span(0, 1), span(7, 7)}},
		"a strip that shows the fall": {shown, []api.Span{span(3, 3), span(1, 1), span(0, 0)}},
		"a strip that shows nothing":  {empty, []api.Span{span(0, 8), span(0, 0), span(0, 0)}},
		"a strip that shows one":      {left, []api.Span{span(6, 9), span(1, 1), span(0, 0)}},
		"as strong as can be":         {most, mostly},
	} {
		if got, e := drum.Strength(x.d); e != api.OK || !slices.Equal(got, x.want) {
			t.Errorf("%s: %v, error %d, want %v", name, got, e, x.want)
		}
	}
}

// P3.2: Tells returns the first hour in which a strip tells all acids apart; the chapter's examples among others.
func TestTells(t *testing.T) {
	three := changed(func(d *api.DrumDrum) {
		d.Acids, d.Known, d.Strips = append(d.Acids, acid(10, 29, 5, 5)), 7, nil
	})
	hidden := three
	hidden.Known = 3
	wide := changed(func(d *api.DrumDrum) { d.Strips, d.Acids[1].Fall = nil, span(0, 0) })
	late := changed(func(d *api.DrumDrum) {
		d.Strips, d.Acids = nil, []api.DrumAcid{acid(60, 60, 0, 0), acid(60, 60, 20, 20)}
	})
	equal := changed(func(d *api.DrumDrum) { d.Strips, d.Acids = nil, []api.DrumAcid{acid(60, 60, 0, 0), acid(60, 60, 0, 0)} })
	for name, x := range map[string]struct {
		d         api.DrumDrum
		off, want int
		e         api.Errno
	}{
		"d by 4":                          {drumD(), 4, 0, api.OK},
		"d by 5":                          {drumD(), 5, 0, api.ErrNone},
		"one acid that is possible":       {drumG(), 50, 0, api.OK},
		"the nearest two":                 {three, 4, 0, api.OK},
		"the nearest two by 5":            {three, 5, 0, api.ErrNone},
		"a third that is not known":       {hidden, 4, 0, api.OK},
		"in the hour 1":                   {wide, 7, 1, api.OK},
		"in the hour 2":                   {wide, 8, 2, api.OK},
		"in the hour 3":                   {wide, 12, 3, api.OK},
		"in no hour":                      {wide, 13, 0, api.ErrNone},
		"equal at first":                  {late, 0, 1, api.OK},
		"by twice as much, and not more":  {late, 10, 2, api.OK},
		"by nearly twice as much":         {late, 9, 1, api.OK},
		"acids that are always equal":     {equal, 0, 0, api.ErrNone},
		"off by the most there is":        {late, 29, 3, api.OK},
		"off by more than the acids tell": {late, 30, 0, api.ErrNone},
	} {
		if got, e := drum.Tells(x.d, x.off); e != x.e || got != x.want {
			t.Errorf("%s: %d, error %d", name, got, e)
		}
	}
	for _, off := range []int{-1, 51, 1 << 62, -1 << 63} {
		for name, d := range map[string]api.DrumDrum{"d": drumD(), "one not possible": torn()} {
			hour, e := drum.Tells(d, off)
			wantError(t, name+", an error of strips that there is not", e, api.ErrArg, hour)
		}
	}
}

// spread returns a drum by chance of which some acids are nearly equal at first, and fall by more or less.
func spread(d *dice) api.DrumDrum {
	x, _ := drumBy(d)
	x.Acids, x.Known, x.Strips = nil, 0, nil
	for n := range d.from(2, 3) {
		low := d.from(30, 33)
		x.Acids = append(x.Acids, api.DrumAcid{Strength: span(low, d.from(low, 33)), Fall: d.span(15, 1)})
		x.Known += 1 << n
	}
	return x
}

// wantTells returns the first hour in which a strip tells acids apart, by what some truths give.
func wantTells(x api.DrumDrum, truths []api.DrumTruth, off int) (int, api.Errno) {
	acids := acidsOf(truths)
	for hour := range x.Hours {
		apart := true
		for _, a := range acids {
			for _, b := range acids {
				s, r := strengthAt(with(a, truths), hour), strengthAt(with(b, truths), hour)
				apart = apart && (a == b || s.Low > r.High+2*off || r.Low > s.High+2*off)
			}
		}
		if apart {
			return hour, api.OK
		}
	}
	return 0, api.ErrNone
}

// P3.2: Tells returns what all truths give.
func TestTellsByTrying(t *testing.T) {
	d := dice(3)
	var first, later, none int
	for i := range 1000 {
		x, _ := drumBy(&d)
		if i%2 == 0 {
			x = spread(&d)
		}
		truths, off := allTruths(x), d.upTo(3)
		if len(acidsOf(truths)) == 1 {
			continue
		}
		want, err := wantTells(x, truths, off)
		if got, e := drum.Tells(x, off); e != err || got != want {
			t.Fatalf("%v, off by %d: %d, error %d, want %d and %d", x, off, got, e, want, err)
		}
		switch {
		case err != api.OK:
			none++
		case want == 0:
			first++
		default:
			later++
		}
	}
	if first < 30 || later < 30 || none < 30 {
		t.Errorf("%d at first, %d later, %d never", first, later, none)
	}
}

// P3.2: whatever a strip shows in the hour that is returned, at most one acid is possible then; in an hour before, some strip leaves two.
func TestTellsByStrips(t *testing.T) {
	d := dice(4)
	told, later := 0, 0
	for i := range 300 {
		x, _ := drumBy(&d)
		if i%2 == 0 {
			x = spread(&d)
		}
		off := d.upTo(4)
		hour, e := drum.Tells(x, off)
		if e != api.OK {
			continue
		}
		for before := range hour + 1 {
			most := 0
			for seen := range 301 {
				y := x
				y.Strips = append(slices.Clone(x.Strips), strip(before, seen, off))
				could, _ := drum.Could(y)
				most = max(most, len(could))
			}
			if before == hour && most != 1 || before < hour && most < 2 {
				t.Fatalf("%v, off by %d: the hour %d, but a strip of %d leaves %d", x, off, hour, before, most)
			}
		}
		told++
		later += min(hour, 1)
	}
	if told < 100 || later < 10 {
		t.Errorf("%d told, %d of them later", told, later)
	}
}
