package drum_test

import (
	"slices"
	"testing"

	"nacre/api"
	"nacre/drum"
)

// someOf returns the drum d with some of its batches.
func someOf(batches ...int) api.DrumDrum {
	return changed(func(d *api.DrumDrum) { d.Batches = chosen(d.Batches, batches) })
}

// chosen returns some of batches, in the order of a list.
func chosen(batches []api.DrumBatch, list []int) []api.DrumBatch {
	var l []api.DrumBatch
	for _, n := range list {
		l = append(l, batches[n])
	}
	return l
}

// from returns a batch that in acid of the strength 10 has the window from one hour to another one.
func from(first, last int) api.DrumBatch { return batch(10*first, 0, 10*last+9, 9, 100, 100) }

// timed returns a drum of some hours with batches that have windows from one hour to another one.
func timed(hours int, windows ...api.Span) api.DrumDrum {
	d := plain(10, hours)
	for _, w := range windows {
		d.Batches = append(d.Batches, from(w.Low, w.High))
	}
	return d
}

// windowsBy returns a drum with batches that have windows by chance.
func windowsBy(d *dice) api.DrumDrum {
	x := timed(d.from(3, 8))
	for range d.from(1, api.DrumBatches) {
		w := d.span(x.Hours, 2)
		x.Batches = append(x.Batches, from(w.Low, w.High))
	}
	return x
}

// P3.5: Window returns the window of all batches; the chapter's examples among others.
func TestWindow(t *testing.T) {
	for name, x := range map[string]struct {
		d    api.DrumDrum
		want api.Span
		e    api.Errno
	}{
		"d":                           {drumD(), api.Span{}, api.ErrNone},
		"e":                           {drumE(), span(2, 2), api.OK},
		"f":                           {drumF(), api.Span{}, api.ErrNone},
		"the batch 1":                 {someOf(1), span(2, 3), api.OK},
		"the batch 2":                 {someOf(2), span(0, 0), api.OK},
		"all hours":                   {timed(12, span(0, 12)), span(0, 12), api.OK},
		"the last hour":               {timed(12, span(12, 12)), span(12, 12), api.OK},
		"what is in common":           {timed(6, span(1, 4), span(2, 5), span(0, 6)), span(2, 4), api.OK},
		"one hour in common":          {timed(6, span(1, 3), span(3, 5)), span(3, 3), api.OK},
		"one after the other":         {timed(6, span(1, 2), span(3, 5)), api.Span{}, api.ErrNone},
		"two in two, and none in all": {timed(6, span(0, 2), span(3, 6), span(0, 6)), api.Span{}, api.ErrNone},
		"smooth when it is too thin":  {plain(10, 3, batch(20, 0, 20, 10, 100, 100)), api.Span{}, api.ErrNone},
		"too thin at first":           {plain(10, 3, batch(0, 0, 5, 6, 100, 100)), api.Span{}, api.ErrNone},
	} {
		if got, e := drum.Window(x.d); e != x.e || got != x.want {
			t.Errorf("%s: %v, error %d", name, got, e)
		}
	}
}

// all returns the numbers of all batches of a drum.
func all(x api.DrumDrum) []int {
	var l []int
	for n := range x.Batches {
		l = append(l, n)
	}
	return l
}

// P3.5: after each hour of the window all batches surely are fine, and after each other hour one is not.
func TestWindowByTrying(t *testing.T) {
	d := dice(21)
	some, none := 0, 0
	for range 600 {
		x, _ := drumBy(&d)
		x.Batches = x.Batches[:d.from(1, len(x.Batches))]
		hours := fineHours(x, allTruths(x), all(x)...)
		w, e := drum.Window(x)
		if len(hours) == 0 {
			none++
			wantError(t, "Window by chance", e, api.ErrNone, w)
			continue
		}
		some++
		if e != api.OK || w != span(hours[0], hours[len(hours)-1]) {
			t.Fatalf("%v: %v, error %d, want %v", x, w, e, hours)
		}
	}
	if some < 100 || none < 100 {
		t.Errorf("%d windows, %d times none", some, none)
	}
}

// P3.6: Named returns the batches that must be named; the chapter's example among others.
func TestNamed(t *testing.T) {
	bad := batch(1000, 0, 1000, 0, 0, 0)
	with := func(d api.DrumDrum, batches ...api.DrumBatch) api.DrumDrum {
		d.Batches = slices.Concat(batches, d.Batches)
		return d
	}
	for name, x := range map[string]struct {
		d    api.DrumDrum
		want []int
	}{
		"d":                           {drumD(), []int{2}},
		"e":                           {drumE(), nil},
		"f, which goes not at all":    {drumF(), []int{0}},
		"the first one":               {someOf(2, 0, 1), []int{0}},
		"the first one of two":        {someOf(0, 2), []int{0}},
		"none that go":                {with(drumF(), bad, bad), []int{0, 1, 2}},
		"two in the middle":           {timed(9, span(4, 5), span(0, 1), span(2, 3), span(4, 6), span(5, 5)), []int{1, 2}},
		"two of two each":             {timed(9, span(0, 1), span(2, 3), span(0, 1), span(2, 3)), []int{0, 2}},
		"the outer two":               {timed(9, span(0, 1), span(4, 5), span(4, 5), span(0, 1)), []int{0, 3}},
		"one that goes alone remains": {timed(9, span(0, 1), span(2, 3), span(4, 5), span(6, 7), span(8, 9)), []int{0, 1, 2, 3}},
		"fewer, though later":         {timed(9, span(0, 1), span(0, 1), span(2, 3), span(0, 1)), []int{2}},
		"one that does not go":        {with(timed(9, span(0, 1), span(1, 2)), bad), []int{0}},
	} {
		if got, e := drum.Named(x.d); e != api.OK || !slices.Equal(got, x.want) {
			t.Errorf("%s: %v, error %d, want %v", name, got, e, x.want)
		}
	}
}

// without returns the batches of a drum that are not in a list.
func without(x api.DrumDrum, list []int) []int {
	return slices.DeleteFunc(all(x), func(n int) bool { return slices.Contains(list, n) })
}

// P3.6: no fewer batches that somebody proposes do, nor as many that come before.
func TestNamedByTrying(t *testing.T) {
	d := dice(22)
	var sizes [api.DrumBatches + 1]int
	for range 600 {
		x, _ := drumBy(&d)
		truths := allTruths(x)
		var want []int
	search:
		for many := range len(x.Batches) + 1 {
			for _, list := range increasing(many, len(x.Batches)) {
				if rest := without(x, list); len(rest) == 0 || len(fineHours(x, truths, rest...)) > 0 {
					want = list
					break search
				}
			}
		}
		if got, e := drum.Named(x); e != api.OK || !slices.Equal(got, want) {
			t.Fatalf("%v: %v, error %d, want %v", x, got, e, want)
		}
		sizes[len(want)]++
	}
	for many, times := range sizes[:4] {
		if times < 20 {
			t.Errorf("%d batches are named %d times", many, times)
		}
	}
}

// P3.7: Sorts reports whether a list is a sorting; ErrArg for one that has not a number for each batch.
func TestSorts(t *testing.T) {
	for name, x := range map[string]struct {
		list []int
		want bool
	}{
		"the best one":           {[]int{0, 0, 1}, true},
		"each alone":             {[]int{0, 1, 2}, true},
		"all together":           {[]int{0, 0, 0}, false},
		"two that do not go":     {[]int{0, 1, 0}, false},
		"two others that do not": {[]int{0, 1, 1}, false},
		"not 0 for the first":    {[]int{1, 0, 0}, false},
		"none with 0":            {[]int{1, 1, 2}, false},
		"two more than before":   {[]int{0, 2, 1}, false},
		"two more at the end":    {[]int{0, 0, 2}, false},
	} {
		if got, e := drum.Sorts(drumD(), x.list); e != api.OK || got != x.want {
			t.Errorf("%s: %v, error %d", name, got, e)
		}
	}
	if got, e := drum.Sorts(drumF(), []int{0}); e != api.OK || got {
		t.Errorf("a batch that has no window: %v, error %d", got, e)
	}
	if got, e := drum.Sorts(timed(9, span(4, 5), span(0, 1), span(5, 6), span(1, 2)), []int{0, 1, 0, 1}); e != api.OK || !got {
		t.Errorf("runs in turn: %v, error %d", got, e)
	}
	for name, list := range map[string][]int{
		"nothing": nil, "2 numbers": {0, 0}, "4 numbers": {0, 0, 1, 1}, "a 3": {0, 0, 3}, "a -1": {0, 0, -1}, "the most": {0, 0, 1<<63 - 1}, "a -1 at first": {-1, 0, 0},
	} {
		for which, d := range map[string]api.DrumDrum{"d": drumD(), "one not possible": torn()} {
			is, e := drum.Sorts(d, list)
			wantError(t, which+", "+name, e, api.ErrArg, is)
		}
	}
}

// isSorting reports whether a list is a sorting, by the definition.
func isSorting(x api.DrumDrum, truths []api.DrumTruth, list []int) bool {
	most := -1
	for _, run := range list {
		if run > most+1 {
			return false
		}
		most = max(most, run)
	}
	for run := range most + 1 {
		var together []int
		for n, r := range list {
			if r == run {
				together = append(together, n)
			}
		}
		if len(fineHours(x, truths, together...)) == 0 {
			return false
		}
	}
	return true
}

// areApart reports whether no two of a list of batches together have a window, by the definition.
func areApart(x api.DrumDrum, truths []api.DrumTruth, list []int) bool {
	for i, a := range list {
		for _, b := range list[:i] {
			if len(fineHours(x, truths, a, b)) > 0 {
				return false
			}
		}
	}
	return true
}

// bestSorting returns the best sorting by trying all lists; nil if there is none.
func bestSorting(x api.DrumDrum, truths []api.DrumTruth) []int {
	var found []int
	for _, list := range allLists(len(x.Batches), len(x.Batches)) {
		if (found == nil || slices.Max(list) < slices.Max(found)) && isSorting(x, truths, list) {
			found = list
		}
	}
	return found
}

// longestApart returns the longest list of batches that are apart, by trying all lists.
func longestApart(x api.DrumDrum, truths []api.DrumTruth) []int {
	for many := len(x.Batches); ; many-- {
		for _, list := range increasing(many, len(x.Batches)) {
			if areApart(x, truths, list) {
				return list
			}
		}
	}
}

// P3.7: Sort returns the best sorting, and Apart the longest list of batches that are apart; the chapter's examples among others.
func TestSortAndApart(t *testing.T) {
	for name, x := range map[string]struct {
		d           api.DrumDrum
		sort, apart []int
	}{
		"d":                        {drumD(), []int{0, 0, 1}, []int{0, 2}},
		"e":                        {drumE(), []int{0, 0}, []int{0}},
		"d in another order":       {someOf(2, 1, 0), []int{0, 1, 1}, []int{0, 1}},
		"one batch":                {someOf(2), []int{0}, []int{0}},
		"the same twice":           {someOf(2, 2), []int{0, 0}, []int{0}},
		"all apart":                {timed(9, span(8, 9), span(2, 3), span(4, 5), span(0, 1), span(6, 7)), []int{0, 1, 2, 3, 4}, []int{0, 1, 2, 3, 4}},
		"the first one goes later": {timed(9, span(0, 9), span(0, 1), span(2, 3)), []int{0, 0, 1}, []int{1, 2}},
		"one with its neighbours":  {timed(9, span(0, 1), span(1, 2), span(2, 3)), []int{0, 0, 1}, []int{0, 2}},
		"not with the first one":   {timed(9, span(0, 2), span(2, 4), span(0, 1), span(3, 4)), []int{0, 1, 0, 1}, []int{0, 3}},
		"three of five":            {timed(9, span(1, 4), span(0, 3), span(4, 5), span(0, 1), span(2, 2)), []int{0, 0, 1, 0, 2}, []int{2, 3, 4}},
	} {
		sorting, runs, e := drum.Sort(x.d)
		if e != api.OK || !slices.Equal(sorting, x.sort) || runs != slices.Max(x.sort)+1 {
			t.Errorf("%s: Sort %v, %d, error %d, want %v", name, sorting, runs, e, x.sort)
		}
		if list, e := drum.Apart(x.d); e != api.OK || !slices.Equal(list, x.apart) {
			t.Errorf("%s: Apart %v, error %d, want %v", name, list, e, x.apart)
		}
	}
	for name, d := range map[string]api.DrumDrum{
		"f": drumF(), "the last one goes not": timed(6, span(0, 1), span(3, 2)), "the first one goes not": timed(6, span(7, 7), span(0, 1)),
	} {
		sorting, runs, e := drum.Sort(d)
		wantError(t, name+", Sort", e, api.ErrNone, sorting, runs)
		list, e := drum.Apart(d)
		wantError(t, name+", Apart", e, api.ErrNone, list)
	}
}

// P3.7: no sorting that somebody proposes has fewer runs, nor as many if it comes before; and there are as many runs as batches that are apart.
func TestSortAndApartByTrying(t *testing.T) {
	d := dice(23)
	var sizes [api.DrumBatches + 1]int
	for range 400 {
		x := windowsBy(&d)
		if d.upTo(1) == 0 {
			x, _ = drumBy(&d)
		}
		truths := allTruths(x)
		want := bestSorting(x, truths)
		sorting, runs, e := drum.Sort(x)
		list, g := drum.Apart(x)
		if want == nil {
			sizes[0]++
			wantError(t, "Sort by chance", e, api.ErrNone, sorting, runs)
			wantError(t, "Apart by chance", g, api.ErrNone, list)
			continue
		}
		sizes[runs]++
		if e != api.OK || !slices.Equal(sorting, want) || runs != slices.Max(want)+1 {
			t.Fatalf("%v: Sort %v, %d, error %d, want %v", x, sorting, runs, e, want)
		}
		if apart := longestApart(x, truths); g != api.OK || !slices.Equal(list, apart) || len(list) != runs {
			t.Fatalf("%v: Apart %v, error %d, want %v for %d runs", x, list, g, apart, runs)
		}
		if is, e := drum.Sorts(x, sorting); e != api.OK || !is {
			t.Fatalf("%v: Sorts %v of %v, error %d", x, is, sorting, e)
		}
	}
	for runs, times := range sizes[:5] {
		if times < 5 {
			t.Errorf("%d runs, %d times", runs, times)
		}
	}
}

// P3.7: Sorts holds for the lists that are sortings by the definition, and for no others.
func TestSortsByTrying(t *testing.T) {
	d := dice(24)
	yes, no := 0, 0
	for range 60 {
		x, _ := drumBy(&d)
		if d.upTo(1) == 0 {
			x = windowsBy(&d)
		}
		x.Batches = x.Batches[:min(len(x.Batches), 4)]
		truths := allTruths(x)
		for _, list := range allLists(len(x.Batches), len(x.Batches)) {
			want := isSorting(x, truths, list)
			if got, e := drum.Sorts(x, list); e != api.OK || got != want {
				t.Fatalf("%v, %v: %v, error %d", x, list, got, e)
			}
			if want {
				yes++
			} else {
				no++
			}
		}
	}
	if yes < 100 || no < 100 {
		t.Errorf("%d sortings, %d others", yes, no)
	}
}

// P3.8: Top returns the least number that must be put in; the chapter's example among others.
func TestTop(t *testing.T) {
	put := func(d api.DrumDrum, hour, add int) api.DrumDrum {
		d.Adds = slices.Clone(d.Adds)
		d.Adds[hour] = add
		return d
	}
	free := func(d api.DrumDrum) api.DrumDrum { d.Strips = nil; return d }
	for name, x := range map[string]struct {
		d        api.DrumDrum
		hour, by int
		want     int
		e        api.Errno
	}{
		"f":                          {drumF(), 2, 4, 10, api.OK},
		"f by the hour 3":            {drumF(), 2, 3, 35, api.OK},
		"f in the last hour":         {drumF(), 3, 4, 20, api.OK},
		"f by hand":                  {put(drumF(), 2, 50), 2, 4, 10, api.OK},
		"f by hand, and not enough":  {put(drumF(), 2, 1), 2, 4, 10, api.OK},
		"nothing is needed":          {someOf(1), 2, 3, 0, api.OK},
		"in place of too much":       {put(someOf(1), 2, 100), 2, 3, 0, api.OK},
		"two that do not go":         {drumE(), 2, 3, 0, api.ErrNone},
		"f at first":                 {free(drumF()), 0, 4, 5, api.OK},
		"all that can be put in":     {plain(0, 1, batch(100, 0, 0, 0, 100, 100)), 0, 1, 100, api.OK},
		"more than can be put in":    {plain(0, 1, batch(101, 0, 0, 0, 100, 100)), 0, 1, 0, api.ErrNone},
		"it gets as thin as can be":  {plain(0, 1, batch(50, 0, 49, 0, 100, 100)), 0, 1, 50, api.OK},
		"it surely gets too thin":    {plain(0, 1, batch(50, 0, 149, 100, 100, 100)), 0, 1, 0, api.ErrNone},
		"the hour is in the window":  {timed(3, span(1, 2)), 2, 2 + 1, 0, api.ErrNone},
		"an hour that is before":     {timed(3, span(1, 2)), 0, 2, 0, api.OK},
		"smooth later too":           {plain(5, 3, batch(15, 0, 100, 0, 100, 100)), 1, 2, 5, api.OK},
		"one of two gets too thin":   {plain(5, 2, batch(15, 0, 100, 0, 100, 100), batch(0, 0, 15, 0, 0, 100)), 1, 2, 5, api.OK},
		"one of two does, and must":  {plain(5, 2, batch(15, 0, 100, 0, 100, 100), batch(0, 0, 15, 1, 0, 100)), 1, 2, 0, api.ErrNone},
		"the strip is the hour 1":    {drumF(), 1, 4, 0, api.ErrRule},
		"the strip is a later one":   {drumF(), 0, 4, 0, api.ErrRule},
		"a strip of the last hour":   {changed(func(d *api.DrumDrum) { d.Strips = []api.DrumStrip{strip(3, 30, 50)} }), 3, 4, 0, api.ErrRule},
		"a drum that is not":         {torn(), 2, 4, 0, api.ErrRule},
		"an hour after the strips":   {changed(func(d *api.DrumDrum) { d.Batches = d.Batches[2:] }), 2, 3, 0, api.ErrNone},
		"one strip of two before it": {changed(func(d *api.DrumDrum) { d.Strips = append(d.Strips, strip(2, 30, 50)) }), 2, 4, 0, api.ErrRule},
	} {
		if got, e := drum.Top(x.d, x.hour, x.by); e != x.e || got != x.want {
			t.Errorf("%s: %d, error %d", name, got, e)
		}
	}
}

// P3.8: Top returns ErrArg for hours that there are not, before it looks at what is possible.
func TestTopOfBad(t *testing.T) {
	const most, least = 1<<63 - 1, -1 << 63
	for _, x := range [][2]int{
		{-1, 2}, {4, 4}, {4, 5}, {2, 2}, {2, 1}, {2, 0}, {2, -1}, {2, 5}, {3, 5}, {most, least}, {most, 2}, {least, 2}, {2, most}, {2, least},
	} {
		for name, d := range map[string]api.DrumDrum{"f": drumF(), "one not possible": torn(), "e": drumE()} {
			n, e := drum.Top(d, x[0], x[1])
			wantError(t, name+", hours that there are not", e, api.ErrArg, n)
		}
	}
}

// P3.8: with the number that is returned, all batches surely are fine after the hour by; with no smaller one.
func TestTopByTrying(t *testing.T) {
	d := dice(25)
	var none, nothing, some int
	for range 300 {
		x, _ := drumBy(&d)
		hour := d.upTo(x.Hours - 1)
		by := d.from(hour+1, x.Hours)
		x.Strips = slices.DeleteFunc(x.Strips, func(s api.DrumStrip) bool { return s.Hour >= hour })
		x.Batches = nil
		for range d.from(1, 3) {
			x.Batches = append(x.Batches, batch(d.upTo(d.upTo(100)), d.upTo(20), 1000, d.from(500, 990), d.from(50, 100), d.upTo(100)))
		}
		want := -1
		for n := 0; n <= api.DrumAdd && want < 0; n++ {
			y := x
			y.Adds = slices.Clone(x.Adds)
			y.Adds[hour] = n
			if slices.Contains(fineHours(y, allTruths(y), all(y)...), by) {
				want = n
			}
		}
		got, e := drum.Top(x, hour, by)
		switch {
		case want < 0:
			none++
			wantError(t, "Top by chance", e, api.ErrNone, got)
		case e != api.OK || got != want:
			t.Fatalf("%v before %d, by %d: %d, error %d, want %d", x, hour, by, got, e, want)
		case want == 0:
			nothing++
		default:
			some++
		}
	}
	if none < 30 || nothing < 30 || some < 30 {
		t.Errorf("%d times none, %d times nothing, %d times some", none, nothing, some)
	}
}
