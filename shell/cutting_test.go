package shell_test

import (
	"math"
	"slices"
	"testing"

	"nacre/api"
	"nacre/shell"
)

// badWorks returns changes after which the chapter's work is not as defined, by what is wrong.
func badWorks() map[string]func(*api.ShellWork) {
	return map[string]func(*api.ShellWork){
		"no tubes":   func(w *api.ShellWork) { w.Tubes = nil },
		"5 tubes":    func(w *api.ShellWork) { w.Tubes = slices.Repeat(w.Tubes[:1], 5) },
		"width 0":    func(w *api.ShellWork) { w.Tubes[1].Width = 0 },
		"width 4":    func(w *api.ShellWork) { w.Tubes[1].Width = 4 },
		"need 0":     func(w *api.ShellWork) { w.Tubes[1].Need = 0 },
		"need 61":    func(w *api.ShellWork) { w.Tubes[1].Need = 61 },
		"worth 0":    func(w *api.ShellWork) { w.Tubes[1].Worth = 0 },
		"worth 101":  func(w *api.ShellWork) { w.Tubes[1].Worth = 101 },
		"kerf -1":    func(w *api.ShellWork) { w.Kerf = -1 },
		"kerf 6":     func(w *api.ShellWork) { w.Kerf = 6 },
		"a bad map":  func(w *api.ShellWork) { w.Map.Taper = 10 },
		"no map":     func(w *api.ShellWork) { w.Map = api.ShellMap{} },
		"a bad cell": func(w *api.ShellWork) { w.Map.Cells[2][3] = 9 },
	}
}

// P1.2: Work returns ErrArg for a work that is not as defined, or OK.
func TestWork(t *testing.T) {
	for name, change := range badWorks() {
		w := exampleWork()
		change(&w)
		wantError(t, name, shell.Work(w), api.ErrArg)
	}
	for name, change := range map[string]func(*api.ShellWork){
		"as it is":  func(*api.ShellWork) {},
		"4 tubes":   func(w *api.ShellWork) { w.Tubes = slices.Repeat(w.Tubes, 2) },
		"one tube":  func(w *api.ShellWork) { w.Tubes = w.Tubes[:1] },
		"all least": func(w *api.ShellWork) { w.Tubes, w.Kerf = []api.ShellTube{{Width: 1, Need: 1, Worth: 1}}, 0 },
		"all most":  func(w *api.ShellWork) { w.Tubes, w.Kerf = []api.ShellTube{{Width: 3, Need: 60, Worth: 100}}, 5 },
		"torn":      func(w *api.ShellWork) { *w = tornWork() },
	} {
		w := exampleWork()
		change(&w)
		wantError(t, name, shell.Work(w), api.OK)
	}
}

// P1.2: Gives returns the fewest and the most slices; the chapter's examples among others.
func TestGives(t *testing.T) {
	wide := api.ShellTube{Width: 2, Need: 4, Worth: 5}
	plate := func(cracks ...api.ShellCrack) api.ShellWork {
		m := api.ShellMap{Cells: grid("###", "###"), Taper: 2, Gauges: []api.ShellGauge{gauge(0, 2, 4, 0), gauge(1, 2, 9, 1)}, Cracks: cracks}
		return api.ShellWork{Map: m, Tubes: []api.ShellTube{wide}}
	}
	for name, x := range map[string]struct {
		w    api.ShellWork
		b    api.ShellBlank
		want api.Span
	}{
		"tube 0 at 0 2":             {exampleWork(), blank(0, 2, 0), span(1, 2)},
		"tube 1 at 1 2":             {exampleWork(), blank(1, 2, 1), span(1, 1)},
		"tube 0 at 0 0":             {exampleWork(), blank(0, 0, 0), span(2, 2)},
		"tube 0 at 1 0":             {exampleWork(), blank(1, 0, 0), span(1, 2)},
		"the least cell":            {plate(), blank(0, 1, 0), span(1, 1)},
		"a crack at the left":       {plate(right(0, 0)), blank(0, 1, 0), span(1, 1)},
		"a crack at the right":      {plate(right(1, 1)), blank(0, 0, 0), span(1, 1)},
		"nothing is known":          {api.ShellWork{Map: api.ShellMap{Cells: grid("#")}, Tubes: []api.ShellTube{{Width: 1, Need: 1, Worth: 1}}}, blank(0, 0, 0), span(0, 60)},
		"nothing is known but kerf": {api.ShellWork{Map: api.ShellMap{Cells: grid("#")}, Tubes: []api.ShellTube{{Width: 1, Need: 1, Worth: 1}}, Kerf: 5}, blank(0, 0, 0), span(0, 10)},
	} {
		got, e := shell.Gives(x.w, x.b)
		if e != api.OK || got != x.want {
			t.Errorf("%s: %v, error %d", name, got, e)
		}
	}
	for name, change := range badWorks() {
		w := exampleWork()
		change(&w)
		got, e := shell.Gives(w, blank(0, 0, 0))
		wantError(t, name, e, api.ErrArg, got)
	}
}

// P1.2: Gives returns ErrNone for a blank that cannot be cut, after ErrArg and ErrRule.
func TestGivesNone(t *testing.T) {
	plate := func(cracks ...api.ShellCrack) api.ShellWork {
		m := api.ShellMap{Cells: grid("###", "###"), Cracks: cracks}
		return api.ShellWork{Map: m, Tubes: []api.ShellTube{{Width: 2, Need: 4, Worth: 5}}}
	}
	for name, x := range map[string]struct {
		w    api.ShellWork
		b    api.ShellBlank
		want api.Errno
	}{
		"tube 1 at 0 0":               {exampleWork(), blank(0, 0, 1), api.ErrNone},
		"a worm hole":                 {exampleWork(), blank(1, 1, 0), api.ErrNone},
		"a worm hole within":          {exampleWork(), blank(1, 0, 1), api.ErrNone},
		"outside":                     {exampleWork(), blank(0, 3, 0), api.ErrNone},
		"outside within":              {exampleWork(), blank(0, 2, 1), api.ErrNone},
		"below the map":               {exampleWork(), blank(2, 2, 1), api.ErrNone},
		"right of the map":            {exampleWork(), blank(1, 3, 1), api.ErrNone},
		"left of the map":             {exampleWork(), blank(0, -1, 0), api.ErrNone},
		"above the map":               {exampleWork(), blank(-1, 0, 0), api.ErrNone},
		"far below":                   {exampleWork(), blank(math.MaxInt, 0, 1), api.ErrNone},
		"far right":                   {exampleWork(), blank(0, math.MaxInt, 1), api.ErrNone},
		"a crack to the right within": {plate(right(1, 1)), blank(0, 1, 0), api.ErrNone},
		"a crack down within":         {plate(down(0, 2)), blank(0, 1, 0), api.ErrNone},
		"tube 2":                      {exampleWork(), blank(0, 0, 2), api.ErrArg},
		"tube -1":                     {exampleWork(), blank(0, 0, -1), api.ErrArg},
		"no work":                     {api.ShellWork{}, blank(0, 0, 0), api.ErrArg},
		"torn":                        {tornWork(), blank(0, 0, 0), api.ErrRule},
		"torn, and not to be cut":     {tornWork(), blank(0, 2, 0), api.ErrRule},
		"torn, and no tube":           {tornWork(), blank(0, 0, 1), api.ErrArg},
	} {
		got, e := shell.Gives(x.w, x.b)
		wantError(t, name, e, x.want, got)
	}
}

// P1.2 and P1.3: whatever is true, blanks and cuttings lie within their bounds, and each end is reached.
func TestBoundsOfAllTruths(t *testing.T) {
	d := dice(3)
	tried, wide := 0, 0
	for range 600 {
		w := workBy(&d, d.from(1, 2), d.from(1, 3))
		truths := allTruths(w.Map, 3000)
		blanks := allBlanks(w)
		if len(truths) == 0 || len(blanks) == 0 {
			continue
		}
		tried++
		for _, b := range blanks {
			want := span(math.MaxInt, 0)
			for _, thick := range truths {
				n := slicesIn(w, b, thick)
				want = span(min(want.Low, n), max(want.High, n))
			}
			if got, e := shell.Gives(w, b); e != api.OK || got != want {
				t.Fatalf("%v %v gives %v, error %d, want %v", w, b, got, e, want)
			}
			if want.Low < want.High {
				wide++
			}
		}
		for _, cutting := range allCuttings(w, blanks, 20) {
			want := span(math.MaxInt, 0)
			for i, thick := range truths {
				n := worthIn(w, cutting, thick)
				want = span(min(want.Low, n), max(want.High, n))
				if i%40 == 0 {
					if got, e := shell.Run(w, cutting, thick); e != api.OK || got != n {
						t.Fatalf("%v %v %v is worth %d, error %d, want %d", w, cutting, thick, got, e, n)
					}
				}
			}
			if got, e := shell.Worth(w, cutting); e != api.OK || got != want {
				t.Fatalf("%v %v is worth %v, error %d, want %v", w, cutting, got, e, want)
			}
		}
	}
	if tried < 100 || wide < 100 {
		t.Errorf("only %d works, %d blanks", tried, wide)
	}
}

// P1.2: a blank can be cut just if the definition says so.
func TestBlanks(t *testing.T) {
	d := dice(4)
	for range 200 {
		w := workBy(&d, d.from(1, api.ShellRows), d.from(1, api.ShellColumns))
		for row := -1; row <= len(w.Map.Cells); row++ {
			for column := -1; column <= len(w.Map.Cells[0]); column++ {
				for tube := range w.Tubes {
					b := blank(row, column, tube)
					want := api.ErrNone
					if isBlank(w, b) {
						want = api.OK
					}
					got, e := shell.Gives(w, b)
					wantError(t, "a blank", e, want, got)
				}
			}
		}
	}
}

// badCuttings returns lists of blanks that are no cuttings of the chapter's work, by what is wrong.
func badCuttings() map[string][]api.ShellBlank {
	return map[string][]api.ShellBlank{
		"a blank that can't be cut": {blank(0, 0, 0), blank(1, 1, 0)},
		"a blank outside":           {blank(0, 3, 0)},
		"a blank off the map":       {blank(3, 0, 0)},
		"a crack":                   {blank(0, 0, 1)},
		"tube 2":                    {blank(0, 0, 0), blank(0, 1, 2)},
		"tube -1":                   {blank(0, 0, -1)},
		"rows in no order":          {blank(1, 2, 1), blank(0, 0, 0)},
		"columns in no order":       {blank(0, 1, 0), blank(0, 0, 0)},
		"twice the same":            {blank(0, 0, 0), blank(0, 0, 0)},
		"two widths in a row":       {blank(1, 0, 0), blank(1, 2, 1)},
		"a band in a band":          {blank(1, 2, 1), blank(2, 1, 0)},
		"a wrong one at the end":    append(exampleCutting(), blank(2, 2, 0)),
	}
}

// P1.3: Worth and Run return what a cutting is worth; the chapter's examples among others.
func TestWorthRun(t *testing.T) {
	truth := [][]int{{12, 10, 9, 0}, {8, 7, 6, 5}, {0, 10, 9, 8}}
	for name, x := range map[string]struct {
		cutting []api.ShellBlank
		want    api.Span
		run     int
	}{
		"the chapter's":     {exampleCutting(), span(24, 26), 26},
		"none":              {nil, span(0, 0), 0},
		"an empty list":     {[]api.ShellBlank{}, span(0, 0), 0},
		"a gap in a row":    {[]api.ShellBlank{blank(1, 0, 0), blank(1, 2, 0), blank(2, 1, 0)}, span(6, 10), 8},
		"a gap between":     {[]api.ShellBlank{blank(0, 0, 0), blank(2, 1, 0)}, span(6, 8), 8},
		"a wide one":        {[]api.ShellBlank{blank(1, 2, 1)}, span(14, 14), 14},
		"one below another": {[]api.ShellBlank{blank(0, 2, 0), blank(1, 2, 0), blank(2, 2, 0)}, span(6, 10), 10},
	} {
		if got, e := shell.Worth(exampleWork(), x.cutting); e != api.OK || got != x.want {
			t.Errorf("%s: worth %v, error %d", name, got, e)
		}
		if got, e := shell.Run(exampleWork(), x.cutting, truth); e != api.OK || got != x.run {
			t.Errorf("%s: runs to %d, error %d", name, got, e)
		}
	}
	for name, cutting := range badCuttings() {
		s, e := shell.Worth(exampleWork(), cutting)
		wantError(t, name, e, api.ErrArg, s)
		n, e := shell.Run(exampleWork(), cutting, truth)
		wantError(t, name, e, api.ErrArg, n)
	}
	for name, thick := range map[string][][]int{
		"no truth":     {{12, 10, 9, 0}, {8, 7, 8, 5}, {0, 10, 9, 8}},
		"off a gauge":  {{12, 10, 7, 0}, {8, 7, 6, 5}, {0, 10, 9, 8}},
		"a row less":   truth[:2],
		"a cell less":  {{12, 10, 9, 0}, {8, 7, 6}, {0, 10, 9, 8}},
		"no thickness": nil,
	} {
		n, e := shell.Run(exampleWork(), exampleCutting(), thick)
		wantError(t, name, e, api.ErrArg, n)
	}
	s, e := shell.Worth(tornWork(), nil)
	wantError(t, "torn", e, api.ErrRule, s)
	s, e = shell.Worth(tornWork(), []api.ShellBlank{blank(0, 2, 0)})
	wantError(t, "torn, and no cutting", e, api.ErrArg, s)
	n, e := shell.Run(tornWork(), nil, [][]int{{5, 5}})
	wantError(t, "torn, and so no truth", e, api.ErrArg, n)
	for name, change := range badWorks() {
		w := exampleWork()
		change(&w)
		s, e := shell.Worth(w, nil)
		wantError(t, name, e, api.ErrArg, s)
		n, e := shell.Run(w, nil, truth)
		wantError(t, name, e, api.ErrArg, n)
	}
}

// P1.3: a list of blanks is a cutting just if the definition says so.
func TestIsCutting(t *testing.T) {
	d := dice(5)
	cuttings := 0
	for range 3000 {
		w := workBy(&d, d.from(1, 5), d.from(1, 5))
		blanks := allBlanks(w)
		if len(blanks) == 0 {
			continue
		}
		var list []api.ShellBlank
		for range d.upTo(4) {
			list = append(list, blanks[d.upTo(len(blanks)-1)])
		}
		if d.upTo(3) > 0 {
			slices.SortFunc(list, func(a, b api.ShellBlank) int { return 100*(a.Row-b.Row) + a.Column - b.Column })
		}
		want := api.OK
		for i := range list {
			for j := range i {
				if !goTogether(w, list[j], list[i]) {
					want = api.ErrArg
				}
			}
		}
		if want == api.OK && len(list) > 1 {
			cuttings++
		}
		if s, e := shell.Worth(w, list); e != want {
			t.Fatalf("%v %v: %v, error %d, want %d", w, list, s, e, want)
		}
	}
	if cuttings < 100 {
		t.Errorf("only %d cuttings", cuttings)
	}
}

// P1.4: Pack returns the best cutting; the chapter's example among others.
func TestPack(t *testing.T) {
	wide := api.ShellTube{Width: 2, Need: 4, Worth: 5}
	plate := func(gauges ...api.ShellGauge) api.ShellWork {
		return api.ShellWork{Map: api.ShellMap{Cells: grid("###", "###"), Taper: 2, Gauges: gauges}, Tubes: []api.ShellTube{wide}}
	}
	thick := []api.ShellGauge{gauge(0, 2, 4, 0), gauge(1, 2, 4, 0)}
	changed := func(change func(*api.ShellWork)) api.ShellWork {
		w := exampleWork()
		change(&w)
		return w
	}
	alike := plate(thick...)
	alike.Tubes = append(alike.Tubes, wide)
	one := plate(thick...)
	one.Tubes = append(one.Tubes, api.ShellTube{Width: 1, Need: 4, Worth: 1})
	one.Tubes[0].Worth = 4
	for name, x := range map[string]struct {
		w    api.ShellWork
		want []api.ShellBlank
		n    int
	}{
		"the chapter's":            {exampleWork(), exampleCutting(), 24},
		"as good, but more blanks": {changed(func(w *api.ShellWork) { w.Tubes[1].Worth = 12 }), exampleCutting(), 22},
		"better in single rows": {changed(func(w *api.ShellWork) { w.Tubes[1].Worth = 11 }), []api.ShellBlank{
			blank(0, 0, 0), blank(0, 1, 0), blank(0, 2, 0), blank(1, 0, 0), blank(1, 2, 0), blank(1, 3, 0), blank(2, 1, 0), blank(2, 2, 0), blank(2, 3, 0)}, 22},
		"the first place":          {plate(thick...), []api.ShellBlank{blank(0, 0, 0)}, 5},
		"the first tube":           {alike, []api.ShellBlank{blank(0, 0, 0)}, 5},
		"a wide one and two":       {one, []api.ShellBlank{blank(0, 0, 1), blank(0, 1, 1), blank(0, 2, 1), blank(1, 0, 1), blank(1, 1, 1), blank(1, 2, 1)}, 6},
		"none of them is worth it": {plate(), nil, 0},
		"none can be cut":          {plate(gauge(0, 2, 3, 0)), nil, 0},
	} {
		got, n, e := shell.Pack(x.w)
		if e != api.OK || n != x.n || !slices.Equal(got, x.want) {
			t.Errorf("%s: %v, %d, error %d", name, got, n, e)
		}
	}
	got, n, e := shell.Pack(tornWork())
	wantError(t, "torn", e, api.ErrRule, got, n)
	for name, change := range badWorks() {
		w := exampleWork()
		change(&w)
		got, n, e := shell.Pack(w)
		wantError(t, name, e, api.ErrArg, got, n)
	}
}

// P1.4: no cutting is surely worth more, and of those worth as much it is the first one with the fewest blanks.
func TestPackOfAllCuttings(t *testing.T) {
	d := dice(6)
	tried := 0
	for range 800 {
		w := workBy(&d, d.from(1, 4), d.from(1, 4))
		cuttings := allCuttings(w, allBlanks(w), 4000)
		if len(cuttings) == 0 {
			continue
		}
		tried++
		want, most := bestOf(w, cuttings, leastTruth(w.Map))
		got, n := pack(t, w)
		if n != most || !slices.Equal(got, want) {
			t.Fatalf("%v: %v, %d, want %v, %d", w, got, n, want, most)
		}
		if s, e := shell.Worth(w, got); e != api.OK || s.Low != n {
			t.Errorf("%v: the best cutting is worth %v, error %d, not %d", w, s, e, n)
		}
	}
	if tried < 300 {
		t.Errorf("only %d works", tried)
	}
}

// P1.4: the largest works are cut too.
func TestPackOfLargeWorks(t *testing.T) {
	m := api.ShellMap{Cells: slices.Repeat(grid("########"), 6)}
	for row := range 6 {
		m.Gauges = append(m.Gauges, gauge(row, 0, 60, 0))
	}
	w := api.ShellWork{Map: m, Tubes: slices.Repeat([]api.ShellTube{{Width: 1, Need: 1, Worth: 100}}, 4)}
	got, n := pack(t, w)
	if n != 48*60*100 || len(got) != 48 || got[47] != blank(5, 7, 0) {
		t.Errorf("%v, %d", got, n)
	}
	if p, n, e := shell.Proof(w); e != api.OK || n != 48*60*100 {
		t.Errorf("%v, %d, error %d", p, n, e)
	}
}
