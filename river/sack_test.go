package river_test

import (
	"slices"
	"testing"

	"nacre/api"
	"nacre/river"
)

// truthB returns a truth of the chapter's sack t u v, with some change.
func truthB(change func(x *api.RiverTruth)) api.RiverTruth {
	x := api.RiverTruth{
		Weather: [][]int{{10, 16, 8, 21}, {13, 9, 15, 11}},
		Origins: origins(1, 1, 1, 0, 0, 1),
	}
	change(&x)
	return x
}

// P8.2: Fits of the chapter's sack t u v.
func TestFitsOfB(t *testing.T) {
	same := func(*api.RiverTruth) {}
	set := func(river, year, n int) func(x *api.RiverTruth) {
		return func(x *api.RiverTruth) { x.Weather[river][year] = n }
	}
	from := func(n ...int) func(x *api.RiverTruth) {
		return func(x *api.RiverTruth) { x.Origins = origins(n...) }
	}
	late := func(x *api.RiverTruth) { x.Origins[1] = origin(1, 3) }
	for name, x := range map[string]struct {
		s      api.RiverSack
		change func(x *api.RiverTruth)
		want   bool
	}{
		"a truth":                   {mixed(), same, true},
		"u from elsewhere":          {mixed(), from(1, 1, 0, 0, 0, 1), true},
		"u from later":              {mixed(), late, true},
		"t from elsewhere":          {mixed(), from(0, 2, 1, 0, 0, 1), false},
		"u where v was":             {mixed(), from(1, 1, 0, 1, 0, 1), false},
		"too early":                 {mixed(), from(1, 0, 1, 0, 0, 1), false},
		"too little for v":          {mixed(), set(0, 1, 15), false},
		"more than v's Grow":        {mixed(), set(0, 1, 17), false},
		"more than a Grow":          {mixed(), set(0, 3, 23), false},
		"less than a Grow":          {mixed(), set(0, 3, 19), false},
		"the most of a Grow":        {mixed(), set(0, 3, 22), true},
		"the least of a Grow":       {mixed(), set(0, 3, 20), true},
		"a number far above":        {mixed(), set(0, 3, far), false},
		"a number far below":        {mixed(), set(1, 2, -far-1), false},
		"off by 2":                  {mixed(), set(1, 0, 14), false},
		"the river 2":               {mixed(), from(2, 1, 1, 0, 0, 1), false},
		"the river -1":              {mixed(), from(-1, 1, 1, 0, 0, 1), false},
		"the year 4":                {mixed(), from(1, 4, 1, 0, 0, 1), false},
		"the year -1":               {mixed(), from(1, 1, 1, -1, 0, 1), false},
		"a river far above":         {mixed(), from(1, 1, far, 0, 0, 1), false},
		"a river far below":         {mixed(), from(1, 1, 1, 0, -far-1, 1), false},
		"a year far above":          {mixed(), from(1, far, 1, 0, 0, 1), false},
		"a year far below":          {mixed(), from(1, 1, 1, -far-1, 0, 1), false},
		"a test":                    {tested(mixed(), 1, false), same, true},
		"another test":              {tested(mixed(), 1, true), same, false},
		"that test, from later":     {tested(mixed(), 1, true), late, true},
		"a test of a year too far":  {tested(mixed(), 1, true), from(1, 1, 1, 4, 0, 1), false},
		"a test of no river":        {tested(mixed(), 1, false), from(1, 1, 2, 0, 0, 1), false},
		"all tests":                 {tested(tested(tested(mixed(), 0, true), 1, false), 2, false), same, true},
		"one test of all":           {tested(tested(tested(mixed(), 0, true), 1, false), 2, true), same, false},
		"the same test twice":       {tested(tested(mixed(), 0, true), 0, true), same, true},
		"two tests of a shell":      {tested(tested(mixed(), 0, true), 0, false), same, false},
		"not possible":              {sack(shell(0, 30), shellU(), shellV()), same, false},
		"a shell that says nothing": {sack(shell(3, 10), shellU(), shellV()), same, true},
	} {
		got, e := river.Fits(bookB(), x.s, truthB(x.change))
		if e != api.OK || got != x.want {
			t.Errorf("%s: %v, error %d, want %v", name, got, e, x.want)
		}
	}
}

// P8.2: Fits has ErrArg for a truth that has not all numbers, and for a book or a sack that is not as defined.
func TestFitsOfBadTruths(t *testing.T) {
	for name, change := range map[string]func(x *api.RiverTruth){
		"nothing":           func(x *api.RiverTruth) { *x = api.RiverTruth{} },
		"no weather":        func(x *api.RiverTruth) { x.Weather = nil },
		"a river less":      func(x *api.RiverTruth) { x.Weather = x.Weather[:1] },
		"a river more":      func(x *api.RiverTruth) { x.Weather = append(x.Weather, x.Weather[0]) },
		"a year less":       func(x *api.RiverTruth) { x.Weather[1] = x.Weather[1][:3] },
		"a year more":       func(x *api.RiverTruth) { x.Weather[0] = append(x.Weather[0], 5) },
		"no years":          func(x *api.RiverTruth) { x.Weather[0] = nil },
		"no origins":        func(x *api.RiverTruth) { x.Origins = nil },
		"an origin less":    func(x *api.RiverTruth) { x.Origins = x.Origins[:2] },
		"an origin more":    func(x *api.RiverTruth) { x.Origins = append(x.Origins, origin(0, 0)) },
		"and no truth too":  func(x *api.RiverTruth) { x.Weather[0][0], x.Origins = 60, x.Origins[:2] },
		"a year less of no": func(x *api.RiverTruth) { x.Weather[0][0], x.Weather[1] = 60, x.Weather[1][:3] },
	} {
		got, e := river.Fits(bookB(), mixed(), truthB(change))
		wantError(t, name, e, api.ErrArg, got)
	}
	same := truthB(func(*api.RiverTruth) {})
	for name, b := range badBooks() {
		got, e := river.Fits(b, mixed(), same)
		wantError(t, name, e, api.ErrArg, got)
	}
	for name, s := range badSacks() {
		got, e := river.Fits(bookB(), s, same)
		wantError(t, name, e, api.ErrArg, got)
	}
}

// P8.2: Fits reports what the chapter defines.
func TestFitsByChance(t *testing.T) {
	d := dice(4)
	yes, no := 0, 0
	for range 5000 {
		b := bookBy(&d, []size{small(), alike(), large()}[d.upTo(2)])
		s, x := sackBy(&d, b)
		switch d.upTo(4) {
		case 0:
			s = strange(&d, s)
		case 1:
			years := x.Weather[d.upTo(len(x.Weather)-1)]
			years[d.upTo(len(years)-1)] += d.from(-2, 2)
		case 2:
			x.Origins[d.upTo(len(x.Origins)-1)] = origin(d.from(-1, 3), d.from(-1, 6))
		}
		want := isTruth(b, s, x)
		if got, e := river.Fits(b, s, x); e != api.OK || got != want {
			t.Fatalf("%v, %v, %v: %v, error %d, want %v", b, s, x, got, e, want)
		}
		if want {
			yes++
		} else {
			no++
		}
	}
	if yes < 500 || no < 500 {
		t.Errorf("%d fit, %d do not", yes, no)
	}
}

// P8.2 and P8.3: Possible, Origins and Closed of sacks with the book b, the chapter's examples among others.
func TestSacksOfB(t *testing.T) {
	for name, x := range map[string]struct {
		s      api.RiverSack
		shell  int
		want   []api.RiverOrigin
		closed api.Span
		e      api.Errno
	}{
		"t u v, t":               {mixed(), 0, origins(1, 1), span(1, 2), api.OK},
		"t u v, u":               {mixed(), 1, origins(0, 0, 1, 0, 1, 3), span(1, 2), api.OK},
		"t u v, v":               {mixed(), 2, origins(0, 1), span(1, 2), api.OK},
		"t":                      {sack(shellT()), 0, origins(0, 2, 1, 1), only(1), api.OK},
		"u":                      {sack(shellU()), 0, origins(0, 0, 0, 1, 1, 0, 1, 3), span(0, 1), api.OK},
		"t v":                    {sack(shellT(), shellV()), 0, origins(1, 1), only(1), api.OK},
		"v t":                    {sack(shellV(), shellT()), 1, origins(1, 1), only(1), api.OK},
		"four of u":              {sack(shellU(), shellU(), shellU(), shellU()), 3, origins(0, 0, 0, 1, 1, 0, 1, 3), span(0, 4), api.OK},
		"u is closed":            {tested(mixed(), 1, true), 1, origins(1, 3), only(2), api.OK},
		"u is not":               {tested(mixed(), 1, false), 1, origins(0, 0, 1, 0), only(1), api.OK},
		"u is not, twice":        {tested(tested(mixed(), 1, false), 1, false), 1, origins(0, 0, 1, 0), only(1), api.OK},
		"t is closed":            {tested(mixed(), 0, true), 0, origins(1, 1), span(1, 2), api.OK},
		"t is not":               {tested(mixed(), 0, false), 0, nil, only(0), api.ErrRule},
		"v is closed":            {tested(mixed(), 2, true), 0, nil, only(0), api.ErrRule},
		"two tests of u":         {tested(tested(mixed(), 1, true), 1, false), 0, nil, only(0), api.ErrRule},
		"30":                     {sack(shell(0, 30)), 0, nil, only(0), api.ErrRule},
		"30 among others":        {sack(shellU(), shell(0, 30), shellV()), 0, nil, only(0), api.ErrRule},
		"6 rings are too many":   {sack(shellU(), shell(3, 9, 9, 9, 9, 9)), 0, nil, only(0), api.ErrRule},
		"13 and 17 in one year":  {sack(shellV(), shell(0, 13)), 1, origins(0, 0, 1, 0), only(0), api.OK},
		"13, off by 1, and 17":   {sack(shellV(), shell(1, 13)), 1, origins(0, 0, 1, 0, 1, 3), span(0, 1), api.OK},
		"13, off by 2, and 17":   {sack(shellV(), shell(2, 13)), 1, origins(0, 0, 0, 1, 1, 0, 1, 2, 1, 3), span(0, 1), api.OK},
		"three that must differ": {sack(shell(0, 9), shell(0, 13), shell(0, 10, 17)), 1, origins(1, 0), span(0, 1), api.OK},
	} {
		got, e := river.Origins(bookB(), x.s, x.shell)
		wantError(t, name, e, x.e, got)
		if !slices.Equal(got, x.want) {
			t.Errorf("%s: %v, want %v", name, got, x.want)
		}
		closed, e := river.Closed(bookB(), x.s)
		wantError(t, name, e, x.e, closed)
		if closed != x.closed {
			t.Errorf("%s: %v are closed, want %v", name, closed, x.closed)
		}
		if is, e := river.Possible(bookB(), x.s); e != api.OK || is != (x.e == api.OK) {
			t.Errorf("%s: possible: %v, error %d", name, is, e)
		}
	}
}

// P8.3: Weather of sacks with the book b, the chapter's example among others.
func TestWeatherOfB(t *testing.T) {
	grow := func() [][]api.Span {
		b := bookB()
		return [][]api.Span{b.Rivers[0].Grow, b.Rivers[1].Grow}
	}
	with := func(river, year int, s api.Span) [][]api.Span {
		w := grow()
		w[river][year] = s
		return w
	}
	for name, x := range map[string]struct {
		s    api.RiverSack
		want [][]api.Span
		e    api.Errno
	}{
		"t v":                  {sack(shellT(), shellV()), with(0, 1, only(16)), api.OK},
		"v":                    {sack(shellV()), with(0, 1, only(16)), api.OK},
		"t u v":                {mixed(), with(0, 1, only(16)), api.OK},
		"u can be from many":   {sack(shellU()), grow(), api.OK},
		"u is closed":          {tested(sack(shellU()), 0, true), with(1, 3, span(11, 12)), api.OK},
		"22":                   {sack(shell(0, 22)), with(0, 3, span(21, 22)), api.OK},
		"22 and 20":            {sack(shell(0, 22), shell(0, 20)), with(0, 3, only(21)), api.OK},
		"22 and 19":            {sack(shell(0, 22), shell(0, 19)), nil, api.ErrRule},
		"30":                   {sack(shell(0, 30)), nil, api.ErrRule},
		"two tests of a shell": {tested(tested(sack(shellU()), 0, true), 0, false), nil, api.ErrRule},
	} {
		got, e := river.Weather(bookB(), x.s)
		wantError(t, name, e, x.e, got)
		if !sameSpans(got, x.want) {
			t.Errorf("%s: %v, want %v", name, got, x.want)
		}
	}
}

// P8.2 and P8.3: Possible, Origins, Weather and Closed have ErrArg for what is not as defined.
func TestBadSacks(t *testing.T) {
	check := func(name string, b api.RiverBook, s api.RiverSack) {
		is, e := river.Possible(b, s)
		wantError(t, name, e, api.ErrArg, is)
		from, e := river.Origins(b, s, 0)
		wantError(t, name, e, api.ErrArg, from)
		w, e := river.Weather(b, s)
		wantError(t, name, e, api.ErrArg, w)
		closed, e := river.Closed(b, s)
		wantError(t, name, e, api.ErrArg, closed)
	}
	for name, b := range badBooks() {
		check(name, b, mixed())
	}
	for name, s := range badSacks() {
		check(name, bookB(), s)
	}
	for _, n := range list(-1, 3, far, -far-1) {
		from, e := river.Origins(bookB(), mixed(), n)
		wantError(t, "a shell that there is not", e, api.ErrArg, from)
	}
	from, e := river.Origins(bookB(), sack(shell(0, 30)), 1)
	wantError(t, "ErrArg comes before", e, api.ErrArg, from)
	most := mixed()
	most.Tests = slices.Repeat([]api.RiverTest{{Shell: 1, Closed: true}}, api.RiverTests)
	if closed, e := river.Closed(bookB(), most); e != api.OK || closed != only(2) {
		t.Errorf("%v, error %d, with 6 tests", closed, e)
	}
}

// wantTold fails unless all is told of a sack as it must be.
func wantTold(t *testing.T, b api.RiverBook, s api.RiverSack, k told) {
	t.Helper()
	if is, e := river.Possible(b, s); e != api.OK || is != k.isPossible() {
		t.Fatalf("%v, %v: %v, error %d", b, s, is, e)
	}
	w, e := river.Weather(b, s)
	closed, eOfClosed := river.Closed(b, s)
	if !k.isPossible() {
		wantError(t, "weather", e, api.ErrRule, w)
		wantError(t, "closed", eOfClosed, api.ErrRule, closed)
	} else if e != api.OK || eOfClosed != api.OK || !sameSpans(w, k.spans()) || closed != k.closed() {
		t.Fatalf("%v, %v: %v, %v, errors %d, %d, want %v, %v", b, s, w, closed, e, eOfClosed, k.spans(), k.closed())
	}
	for n := range s.Shells {
		got, e := river.Origins(b, s, n)
		if !k.isPossible() {
			wantError(t, "origins", e, api.ErrRule, got)
		} else if want := k.from(n); e != api.OK || !slices.Equal(got, want) {
			t.Fatalf("%v, %v, %d: %v, error %d, want %v", b, s, n, got, e, want)
		}
	}
}

// P8.2 and P8.3: Possible, Origins, Weather and Closed return what all truths of small books say.
func TestSacksOfSmallBooks(t *testing.T) {
	d := dice(5)
	possible, not := 0, 0
	for range 2000 {
		b := bookBy(&d, small())
		s, _ := sackBy(&d, b)
		s.Shells = s.Shells[:min(3, len(s.Shells))]
		s.Tests = slices.DeleteFunc(s.Tests, func(t api.RiverTest) bool { return t.Shell >= len(s.Shells) })
		if d.upTo(2) > 0 {
			s = strange(&d, s)
		}
		k := tried(b, s)
		wantTold(t, b, s, k)
		if k.isPossible() {
			possible++
		} else {
			not++
		}
	}
	if possible < 1000 || not < 300 {
		t.Errorf("%d are possible, %d are not", possible, not)
	}
}

// P8.2 and P8.3: Possible, Origins, Weather and Closed return what all origins of large books say.
func TestSacksOfLargeBooks(t *testing.T) {
	d := dice(6)
	possible, not, closer := 0, 0, 0
	for range 2000 {
		b := bookBy(&d, []size{alike(), wide(), large()}[d.upTo(2)])
		s, _ := sackBy(&d, b)
		if d.upTo(2) == 0 {
			s = strange(&d, s)
		}
		k := followed(b, s)
		wantTold(t, b, s, k)
		if !k.isPossible() {
			not++
			continue
		}
		possible++
		// shells of one sack that prove more together than each by itself
		for n, x := range s.Shells {
			if alone, _ := river.Could(b, x); len(s.Tests) == 0 && len(k.from(n)) < len(alone) {
				closer++
			}
		}
	}
	if possible < 1000 || not < 100 || closer < 50 {
		t.Errorf("%d are possible, %d are not, of %d shells more is known", possible, not, closer)
	}
}

// P8.3: whatever is true, each origin is among those that are returned, the weather lies within its bounds, and so does
// the number of shells of closed years.
func TestSacksWhateverIsTrue(t *testing.T) {
	d := dice(7)
	for range 2000 {
		b := bookBy(&d, []size{small(), alike(), large()}[d.upTo(2)])
		s, x := sackBy(&d, b)
		if fits, e := river.Fits(b, s, x); e != api.OK || !fits {
			t.Fatalf("%v, %v, %v: %v, error %d", b, s, x, fits, e)
		}
		if is, e := river.Possible(b, s); e != api.OK || !is {
			t.Fatalf("%v, %v: %v, error %d", b, s, is, e)
		}
		many := 0
		for n, o := range x.Origins {
			if got, e := river.Origins(b, s, n); e != api.OK || !slices.Contains(got, o) {
				t.Fatalf("%v, %v, %d: %v, error %d, want %v", b, s, n, got, e, o)
			}
			if isClosed(b, o) {
				many++
			}
		}
		if closed, e := river.Closed(b, s); e != api.OK || many < closed.Low || many > closed.High {
			t.Fatalf("%v, %v: %v, error %d, want %d", b, s, closed, e, many)
		}
		w, e := river.Weather(b, s)
		if e != api.OK {
			t.Fatalf("%v, %v: error %d", b, s, e)
		}
		for river, years := range x.Weather {
			for year, n := range years {
				if at := w[river][year]; n < at.Low || n > at.High {
					t.Fatalf("%v, %v: %v, want %v", b, s, w, x.Weather)
				}
			}
		}
	}
}
