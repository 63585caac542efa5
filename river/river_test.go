package river_test

import (
	"slices"
	"testing"

	"nacre/api"
	"nacre/river"
)

// P8.1: Check returns OK for books that are as defined, and ErrArg for others.
func TestCheck(t *testing.T) {
	for name, b := range map[string]api.RiverBook{
		"b":               bookB(),
		"the least":       bareBook(),
		"the most":        fullBook(),
		"no closed years": changed(func(b *api.RiverBook) { b.Rivers[0].Closed, b.Rivers[1].Closed = 0, 0 }),
		"all closed":      changed(func(b *api.RiverBook) { b.Rivers[0].Closed = 15 }),
		"a wide Grow":     changed(func(b *api.RiverBook) { b.Rivers[0].Grow[0] = span(0, 4) }),
		"a Grow of 40":    changed(func(b *api.RiverBook) { b.Rivers[0].Grow[3] = only(40) }),
		"one river":       changed(func(b *api.RiverBook) { b.Rivers = b.Rivers[1:] }),
		"three rivers":    changed(func(b *api.RiverBook) { b.Rivers = append(b.Rivers, b.Rivers[0]) }),
		"a Vary of 3":     changed(func(b *api.RiverBook) { b.Rivers[1].Vary = 3 }),
	} {
		if e := river.Check(b); e != api.OK {
			t.Errorf("%s: error %d", name, e)
		}
	}
	for name, b := range badBooks() {
		wantError(t, name, river.Check(b), api.ErrArg)
	}
}

// P8.1: Could and Word of the book b, the chapter's examples among others.
func TestShellsOfB(t *testing.T) {
	const never, may, surely = api.RiverNever, api.RiverMay, api.RiverSurely
	for name, x := range map[string]struct {
		s    api.RiverShell
		want []api.RiverOrigin
		word api.RiverWord
	}{
		"s":                      {shellS(), origins(0, 2), surely},
		"t":                      {shellT(), origins(0, 2, 1, 1), surely},
		"t without an Off":       {shell(0, 13, 9), origins(0, 2, 1, 1), surely},
		"u":                      {shellU(), origins(0, 0, 0, 1, 1, 0, 1, 3), may},
		"u without an Off":       {shell(0, 12), origins(0, 0, 1, 0, 1, 3), may},
		"v":                      {shellV(), origins(0, 1), never},
		"v and 1 more":           {shell(0, 18), nil, never},
		"v and 1 more, off":      {shell(1, 18), origins(0, 1, 0, 3), never},
		"9":                      {shell(0, 9), origins(0, 0, 0, 2, 1, 1), may},
		"7":                      {shell(0, 7), origins(0, 2), surely},
		"6":                      {shell(0, 6), nil, never},
		"6, off by 1":            {shell(1, 6), origins(0, 2), surely},
		"5, off by 3":            {shell(3, 5), origins(0, 2), surely},
		"0, off by 3":            {shell(3, 0), nil, never},
		"60":                     {shell(3, 60), nil, never},
		"23":                     {shell(0, 23), origins(0, 3), never},
		"26, off by 3":           {shell(3, 26), origins(0, 3), never},
		"27, off by 3":           {shell(3, 27), nil, never},
		"all years":              {shell(0, 11, 15, 8, 21), origins(0, 3), never},
		"all years of the other": {shell(0, 13, 10, 15, 11), origins(1, 3), surely},
		"all years, and 1 more":  {shell(3, 11, 11, 15, 8, 21), nil, never},
		"three years":            {shell(0, 9, 17, 10), origins(0, 2), surely},
		"the last ring differs":  {shell(0, 9, 17, 11), nil, never},
		"the first ring differs": {shell(0, 8, 17, 10), nil, never},
		"turned":                 {shell(0, 9, 15), origins(0, 1, 1, 2), never},
		"a ring of 2 years":      {shell(2, 14, 10), origins(0, 2, 1, 1, 1, 3), surely},
	} {
		got, e := river.Could(bookB(), x.s)
		if e != api.OK || !slices.Equal(got, x.want) {
			t.Errorf("%s: %v, error %d, want %v", name, got, e, x.want)
		}
		if w, e := river.Word(bookB(), x.s); e != api.OK || w != x.word {
			t.Errorf("%s: %d, error %d, want %d", name, w, e, x.word)
		}
	}
	if got, e := river.Could(bareBook(), shell(0, 0)); e != api.OK || !slices.Equal(got, origins(0, 0)) {
		t.Errorf("%v, error %d", got, e)
	}
	if got, e := river.Could(evenBook(), shell(3, 43)); e != api.OK || !slices.Equal(got, everywhere(evenBook())) {
		t.Errorf("%v, error %d", got, e)
	}
}

// P8.1: Could and Word have ErrArg for a book or a shell that is not as defined.
func TestShellsOfBadBooks(t *testing.T) {
	check := func(name string, b api.RiverBook, s api.RiverShell) {
		got, e := river.Could(b, s)
		wantError(t, name, e, api.ErrArg, got)
		word, e := river.Word(b, s)
		wantError(t, name, e, api.ErrArg, word)
	}
	for name, b := range badBooks() {
		check(name, b, shellS())
	}
	for name, s := range badShells() {
		check(name, bookB(), s)
	}
}

// couldBe reports whether a shell agrees with an origin for some weather, by trying all numbers of each ring's year.
func couldBe(b api.RiverBook, s api.RiverShell, o api.RiverOrigin) bool {
	for i, ring := range s.Rings {
		year := o.Year - (len(s.Rings) - 1 - i)
		if year < 0 || numbersOf(b.Rivers[o.River].Grow[year], ring, b.Rivers[o.River].Vary+s.Off) == 0 {
			return false
		}
	}
	return true
}

// P8.1: Could and Word return what the chapter defines.
func TestShellsByChance(t *testing.T) {
	d := dice(1)
	words := map[api.RiverWord]int{}
	for range 20000 {
		b := bookBy(&d, []size{small(), alike(), large()}[d.upTo(2)])
		s, _ := caught(&d, b, weatherBy(&d, b))
		if d.upTo(1) == 0 {
			s = strange(&d, sack(s)).Shells[0]
		}
		var want []api.RiverOrigin
		closed := 0
		for _, o := range everywhere(b) {
			if couldBe(b, s, o) {
				want = append(want, o)
				if isClosed(b, o) {
					closed++
				}
			}
		}
		if got, e := river.Could(b, s); e != api.OK || !slices.Equal(got, want) {
			t.Fatalf("%v, %v: %v, error %d, want %v", b, s, got, e, want)
		}
		word := api.RiverMay
		if closed == 0 {
			word = api.RiverNever
		} else if closed == len(want) {
			word = api.RiverSurely
		}
		if got, e := river.Word(b, s); e != api.OK || got != word {
			t.Fatalf("%v, %v: %d, error %d, want %d", b, s, got, e, word)
		}
		words[word]++
	}
	if words[api.RiverNever] < 200 || words[api.RiverMay] < 200 || words[api.RiverSurely] < 200 {
		t.Errorf("words: %v", words)
	}
}

// P8.1: Could returns the origins with which a shell agrees for some weather, by trying all weather of small books.
func TestCouldOfAllWeather(t *testing.T) {
	d := dice(2)
	for range 2000 {
		b := bookBy(&d, small())
		s, _ := caught(&d, b, weatherBy(&d, b))
		can := map[api.RiverOrigin]bool{}
		for w := range weathers(b) {
			for _, o := range everywhere(b) {
				if isOf(b, s, o, w) {
					can[o] = true
				}
			}
		}
		got, e := river.Could(b, s)
		if e != api.OK || len(got) != len(can) || slices.ContainsFunc(got, func(o api.RiverOrigin) bool { return !can[o] }) {
			t.Fatalf("%v, %v: %v, error %d, want %v", b, s, got, e, can)
		}
	}
}

// P8.1 and P0.8: whatever is true, the origin of a shell is among those that are returned;
// a shell that surely is of a closed year is, and one that never is is not.
func TestShellsWhateverIsTrue(t *testing.T) {
	d := dice(3)
	known := 0
	for range 5000 {
		b := bookBy(&d, []size{small(), alike(), large()}[d.upTo(2)])
		s, o := caught(&d, b, weatherBy(&d, b))
		if got, e := river.Could(b, s); e != api.OK || !slices.Contains(got, o) {
			t.Fatalf("%v, %v: %v, error %d, want %v", b, s, got, e, o)
		}
		word, e := river.Word(b, s)
		if e != api.OK || word == api.RiverSurely && !isClosed(b, o) || word == api.RiverNever && isClosed(b, o) {
			t.Fatalf("%v, %v: %d, error %d, is from %v", b, s, word, e, o)
		}
		if word != api.RiverMay {
			known++
		}
	}
	if known < 1000 {
		t.Errorf("%d are known", known)
	}
}
