package dye_test

import (
	"slices"
	"testing"

	"nacre/api"
	"nacre/dye"
)

// sorterOf returns a sorter.
func sorterOf(eye api.Span, tire int, looks ...api.Span) api.DyeSorter {
	return api.DyeSorter{Eye: eye, Tire: tire, Looks: looks}
}

// badSorters returns sorters that are not as defined.
func badSorters() map[string]api.DyeSorter {
	good := sorterS().Looks
	bad := map[string]api.DyeSorter{
		"nothing":      {},
		"no buttons":   sorterOf(only(2), 1),
		"5 buttons":    sorterOf(only(2), 1, slices.Repeat([]api.Span{only(1)}, 5)...),
		"many buttons": sorterOf(only(2), 1, slices.Repeat([]api.Span{only(1)}, 1000000)...),
		"a Tire of 10": sorterOf(only(2), 10, good...),
		"a Tire of -1": sorterOf(only(2), -1, good...),
	}
	for name, s := range map[string]api.Span{
		"turned": span(2, 1), "wide": span(0, 7), "from -3001": span(-3001, -3000), "to 3001": span(2999, 3001), "of all": span(-1<<63, 1<<63-1),
	} {
		bad["a look "+name] = sorterOf(only(2), 1, s)
		bad["a last look "+name] = sorterOf(only(2), 1, good[0], good[1], good[2], s)
	}
	for i, eye := range badEyes() {
		bad["a bad eye "+string(rune('a'+i))] = sorterOf(eye, 1, good...)
	}
	return bad
}

// P4.7: Sorter returns OK for a sorter that is as defined, and ErrArg for others.
func TestSorter(t *testing.T) {
	for name, s := range map[string]api.DyeSorter{
		"s": sorterS(), "one button": sorterOf(only(0), 0, only(0)), "the least": sorterOf(span(0, 4), 0, span(-3000, -2994)),
		"the most": sorterOf(span(196, 200), 9, slices.Repeat([]api.Span{span(2994, 3000)}, 4)...),
	} {
		wantError(t, name, dye.Sorter(s), api.OK)
	}
	for name, s := range badSorters() {
		wantError(t, name, dye.Sorter(s), api.ErrArg)
		looks := make([]int, len(s.Looks))
		trays, e := dye.Lay(s, looks, 2)
		wantError(t, name+", Lay", e, api.ErrArg, trays)
		found, eye, e := dye.Proves(s, looks)
		wantError(t, name+", Proves", e, api.ErrArg, found, eye)
		word, e := dye.Together(s, 0, 0)
		wantError(t, name+", Together", e, api.ErrArg, word)
	}
}

// P4.7: Lay of the chapter's sorter, and of others.
func TestLayOfS(t *testing.T) {
	wide := func(tire int, looks ...int) api.DyeSorter {
		s := sorterOf(span(2, 6), tire)
		for _, n := range looks {
			s.Looks = append(s.Looks, only(n))
		}
		return s
	}
	for name, x := range map[string]struct {
		s     api.DyeSorter
		looks []int
		eye   int
		want  []int
	}{
		"an eye of 3":       {sorterS(), []int{10, 14, 17}, 3, []int{0, 0, 1}},
		"an eye of 2":       {sorterS(), []int{10, 14, 17}, 2, []int{0, 1, 1}},
		"all alike":         {sorterS(), []int{12, 13, 17}, 3, []int{0, 0, 0}},
		"10, 13 and 17":     {sorterS(), []int{10, 13, 17}, 2, []int{0, 0, 1}},
		"all differ":        {wide(0, 0, 10, 20, 30), []int{0, 10, 20, 30}, 6, []int{0, 1, 2, 3}},
		"tired at last":     {wide(9, 0, 16, 60, 27), []int{0, 16, 60, 27}, 6, []int{0, 1, 2, 0}},
		"the first of two":  {wide(0, 0, 4, 2, 4), []int{0, 4, 2, 4}, 2, []int{0, 1, 0, 1}},
		"both first alike":  {wide(1, 0, 5, 3, 8), []int{0, 5, 3, 8}, 3, []int{0, 1, 0, 1}},
		"by the first one":  {wide(0, 0, 2, 4, 6), []int{0, 2, 4, 6}, 2, []int{0, 0, 1, 1}},
		"down":              {wide(0, 0, -2, -4, 2), []int{0, -2, -4, 2}, 2, []int{0, 0, 1, 0}},
		"one button":        {wide(9, -7), []int{-7}, 2, []int{0}},
		"tires in its time": {wide(3, 0, 5, 8, 11), []int{0, 5, 8, 11}, 2, []int{0, 0, 0, 0}},
		"tires just so":     {wide(3, 0, 6, 9, 12), []int{0, 6, 9, 12}, 2, []int{0, 1, 1, 1}},
	} {
		if trays, e := dye.Lay(x.s, x.looks, x.eye); e != api.OK || !slices.Equal(trays, x.want) {
			t.Errorf("%s: %v, error %d, want %v", name, trays, e, x.want)
		}
	}
}

// P4.7: Lay has ErrArg for looks and eyes that are no truth.
func TestLayOfNoTruth(t *testing.T) {
	for name, x := range map[string]struct {
		looks []int
		eye   int
	}{
		"no looks":      {nil, 3},
		"a look less":   {[]int{10, 14}, 3},
		"a look more":   {[]int{10, 14, 17, 17}, 3},
		"many looks":    {make([]int, 1000000), 3},
		"a look below":  {[]int{9, 14, 17}, 3},
		"a look above":  {[]int{10, 15, 17}, 3},
		"the last look": {[]int{10, 14, 16}, 3},
		"an eye above":  {[]int{10, 14, 17}, 4},
		"an eye below":  {[]int{10, 14, 17}, 1},
		"a far look":    {[]int{1<<63 - 1, 14, 17}, 3},
		"a far eye":     {[]int{10, 14, 17}, -1 << 63},
	} {
		trays, e := dye.Lay(sorterS(), x.looks, x.eye)
		wantError(t, name, e, api.ErrArg, trays)
	}
}

// sorting is a truth of a sorter, with the trays that come.
type sorting struct {
	eye          int
	looks, trays []int
}

// sortings returns all truths of a sorter.
func sortings(s api.DyeSorter) []sorting {
	var all []sorting
	for _, numbers := range allNumbers(append(slices.Clone(s.Looks), s.Eye)) {
		last := len(s.Looks)
		x := sorting{eye: numbers[last], looks: numbers[:last]}
		x.trays = traysOf(s, x.looks, x.eye)
		all = append(all, x)
	}
	return all
}

// traysOf returns the tray of each button: the tray of the first one of those before it that began a tray and look so, or a new one.
func traysOf(s api.DyeSorter, looks []int, eye int) []int {
	var trays []int
	begun := 0
	for n, look := range looks {
		tray := begun
		for before := n - 1; before >= 0; before-- {
			begins := slices.Index(trays, trays[before]) == before
			if begins && size(looks[before]-look) <= eye+n*s.Tire {
				tray = trays[before]
			}
		}
		if tray == begun {
			begun++
		}
		trays = append(trays, tray)
	}
	return trays
}

// sorterBy returns a sorter by chance, with looks that are near each other.
func sorterBy(d *dice) api.DyeSorter {
	s := api.DyeSorter{Eye: d.span(0, []int{4, 12, 200}[d.upTo(2)], api.DyeVary), Tire: d.upTo([]int{0, 3, 9}[d.upTo(2)])}
	middle := d.from(-2900, 2900)
	for range d.from(1, api.DyeButtons) {
		s.Looks = append(s.Looks, d.span(middle-s.Eye.High-9, middle+s.Eye.High+9, d.upTo(api.DyeSlack)))
	}
	return s
}

// P4.7: Lay returns the trays of all truths.
func TestLay(t *testing.T) {
	d := dice(12)
	for range 400 {
		s := sorterBy(&d)
		var looks []int
		for _, look := range s.Looks {
			looks = append(looks, d.in(look))
		}
		eye := d.in(s.Eye)
		if trays, e := dye.Lay(s, looks, eye); e != api.OK || !slices.Equal(trays, traysOf(s, looks, eye)) {
			t.Fatalf("%v: %v and %d give %v, error %d, want %v", s, looks, eye, trays, e, traysOf(s, looks, eye))
		}
	}
}

// P4.8: Proves of the chapter's sorter; the numbers of trays that it has ErrArg for, and those that cannot be.
func TestProvesOfS(t *testing.T) {
	for name, x := range map[string]struct {
		trays []int
		looks []api.Span
		eye   api.Span
		e     api.Errno
	}{
		"0, 0, 1":       {[]int{0, 0, 1}, []api.Span{span(10, 12), span(13, 14), only(17)}, span(2, 3), api.OK},
		"0, 0, 0":       {[]int{0, 0, 0}, []api.Span{only(12), span(13, 14), only(17)}, only(3), api.OK},
		"0, 1, 1":       {[]int{0, 1, 1}, []api.Span{only(10), only(14), only(17)}, only(2), api.OK},
		"0, 1, 2":       {[]int{0, 1, 2}, nil, api.Span{}, api.ErrRule},
		"0, 1, 0":       {[]int{0, 1, 0}, nil, api.Span{}, api.ErrRule},
		"1 at first":    {[]int{1, 0, 0}, nil, api.Span{}, api.ErrRule},
		"one left out":  {[]int{0, 0, 2}, nil, api.Span{}, api.ErrRule},
		"3 at last":     {[]int{0, 0, 3}, nil, api.Span{}, api.ErrRule},
		"3 of all":      {[]int{3, 3, 3}, nil, api.Span{}, api.ErrRule},
		"4 at last":     {[]int{0, 0, 4}, nil, api.Span{}, api.ErrArg},
		"4 at first":    {[]int{4, 0, 0}, nil, api.Span{}, api.ErrArg},
		"below 0":       {[]int{0, -1, 0}, nil, api.Span{}, api.ErrArg},
		"far below 0":   {[]int{0, 0, -1 << 63}, nil, api.Span{}, api.ErrArg},
		"far above":     {[]int{0, 0, 1<<63 - 1}, nil, api.Span{}, api.ErrArg},
		"a number less": {[]int{0, 0}, nil, api.Span{}, api.ErrArg},
		"a number more": {[]int{0, 0, 0, 0}, nil, api.Span{}, api.ErrArg},
		"no numbers":    {nil, nil, api.Span{}, api.ErrArg},
		"many numbers":  {make([]int, 1000000), nil, api.Span{}, api.ErrArg},
		"1, and long":   {[]int{1, 0, 0, 0}, nil, api.Span{}, api.ErrArg},
		"1, and 4":      {[]int{1, 0, 4}, nil, api.Span{}, api.ErrArg},
	} {
		looks, eye, e := dye.Proves(sorterS(), x.trays)
		wantError(t, name, e, x.e, looks, eye)
		if !slices.Equal(looks, x.looks) || eye != x.eye {
			t.Errorf("%s: %v and %v, want %v and %v", name, looks, eye, x.looks, x.eye)
		}
	}
}

// proofs returns what trays prove, by trying all truths; nil if they cannot be.
func proofs(all []sorting, trays []int) (looks []api.Span, eye api.Span) {
	for _, x := range all {
		if !slices.Equal(x.trays, trays) {
			continue
		}
		if looks == nil {
			eye = only(x.eye)
			for _, n := range x.looks {
				looks = append(looks, only(n))
			}
		}
		eye = span(min(eye.Low, x.eye), max(eye.High, x.eye))
		for i, n := range x.looks {
			looks[i] = span(min(looks[i].Low, n), max(looks[i].High, n))
		}
	}
	return looks, eye
}

// P4.8: Proves returns the ends of looks and of the eye over all truths in which trays come so, for all trays that can be asked about.
func TestProves(t *testing.T) {
	d := dice(13)
	narrower, none := 0, 0
	for range 60 {
		s := sorterBy(&d)
		all := sortings(s)
		many := len(s.Looks)
		for _, trays := range allNumbers(slices.Repeat([]api.Span{span(0, min(many, 2))}, many)) {
			looks, eye, e := dye.Proves(s, trays)
			wantLooks, wantEye := proofs(all, trays)
			if wantLooks == nil {
				wantError(t, "trays that cannot be", e, api.ErrRule, looks, eye)
				none++
				continue
			}
			if e != api.OK || !slices.Equal(looks, wantLooks) || eye != wantEye {
				t.Fatalf("%v, %v: %v and %v, error %d, want %v and %v", s, trays, looks, eye, e, wantLooks, wantEye)
			}
			if eye != s.Eye || !slices.Equal(looks, s.Looks) {
				narrower++
			}
		}
	}
	if narrower < 20 || none < 20 {
		t.Errorf("%d prove something, %d cannot be", narrower, none)
	}
}

// P4.9: Together of the chapter's sorter, and of others.
func TestTogetherOfS(t *testing.T) {
	near := sorterOf(span(2, 3), 1, only(10), only(12), span(16, 18))
	for name, x := range map[string]struct {
		s    api.DyeSorter
		a, b int
		want api.DyeWord
		e    api.Errno
	}{
		"1 and 2":           {sorterS(), 1, 2, may, api.OK},
		"0 and 2":           {sorterS(), 0, 2, may, api.OK},
		"0 and 1":           {sorterS(), 0, 1, may, api.OK},
		"2 and 0":           {sorterS(), 2, 0, may, api.OK},
		"its own":           {sorterS(), 2, 2, surely, api.OK},
		"its own, first":    {sorterS(), 0, 0, surely, api.OK},
		"surely":            {near, 0, 1, surely, api.OK},
		"never":             {near, 2, 0, never, api.OK},
		"never, though 1":   {near, 1, 2, never, api.OK},
		"one eye in 5":      {sorterOf(span(0, 4), 0, only(0), only(4)), 0, 1, may, api.OK},
		"one above all":     {sorterOf(span(0, 4), 0, only(0), only(5)), 0, 1, never, api.OK},
		"just alike":        {sorterOf(span(4, 8), 0, only(0), only(4)), 0, 1, surely, api.OK},
		"by a third one":    {sorterOf(only(2), 0, only(2), only(0), only(4)), 1, 2, surely, api.OK},
		"though alike":      {sorterOf(only(2), 0, only(0), only(2), only(4)), 1, 2, never, api.OK},
		"the button 3":      {sorterS(), 0, 3, 0, api.ErrArg},
		"the button 3 too":  {sorterS(), 3, 3, 0, api.ErrArg},
		"the button -1":     {sorterS(), -1, 0, 0, api.ErrArg},
		"the last button":   {sorterS(), 0, 1<<63 - 1, 0, api.ErrArg},
		"the first of none": {sorterS(), -1 << 63, 1, 0, api.ErrArg},
	} {
		word, e := dye.Together(x.s, x.a, x.b)
		wantError(t, name, e, x.e, word)
		if word != x.want {
			t.Errorf("%s: %d, want %d", name, word, x.want)
		}
	}
}

// P4.9: the word is that which all truths give, and the same for buttons the other way about.
func TestTogether(t *testing.T) {
	d := dice(14)
	count := map[api.DyeWord]int{}
	for range 80 {
		s := sorterBy(&d)
		all := sortings(s)
		for a := range s.Looks {
			for b := range s.Looks {
				same, other := false, false
				for _, x := range all {
					is := x.trays[a] == x.trays[b]
					same, other = same || is, other || !is
				}
				want := may
				if !other {
					want = surely
				} else if !same {
					want = never
				}
				if got, e := dye.Together(s, a, b); e != api.OK || got != want {
					t.Fatalf("%v, %d and %d: %d, error %d, want %d", s, a, b, got, e, want)
				}
				if a != b {
					count[want]++
				}
			}
		}
	}
	if count[never] < 20 || count[may] < 20 || count[surely] < 20 {
		t.Error(count)
	}
}
