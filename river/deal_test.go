package river_test

import (
	"iter"
	"slices"
	"testing"

	"nacre/api"
	"nacre/river"
)

// licencesL returns the licences l of the chapter.
func licencesL() []api.RiverLicence {
	return []api.RiverLicence{{Last: 1, Quota: 10}, {River: 1, Last: 3, Quota: 6}}
}

// takesK returns the takes k of the chapter.
func takesK() []api.RiverTake {
	return []api.RiverTake{
		{Year: span(0, 1), Many: 6}, {Year: only(1), Many: 5},
		{River: 1, Year: only(0), Many: 4}, {River: 1, Year: span(0, 1), Many: 1},
	}
}

// badMarkets returns licences and takes that are not as defined, for the book b.
func badMarkets() map[string]func(l *[]api.RiverLicence, k *[]api.RiverTake) {
	type licences = *[]api.RiverLicence
	type takes = *[]api.RiverTake
	return map[string]func(l licences, k takes){
		"5 licences":              func(l licences, _ takes) { *l = slices.Repeat((*l)[:1], 5) },
		"many licences":           func(l licences, _ takes) { *l = slices.Repeat((*l)[:1], 100000) },
		"a licence for 2":         func(l licences, _ takes) { (*l)[1].River = 2 },
		"a licence for -1":        func(l licences, _ takes) { (*l)[0].River = -1 },
		"a licence for far":       func(l licences, _ takes) { (*l)[0].River = far },
		"a First after its Last":  func(l licences, _ takes) { (*l)[0].First = 2 },
		"a First of -1":           func(l licences, _ takes) { (*l)[0].First = -1 },
		"a Last of 4":             func(l licences, _ takes) { (*l)[1].Last = 4 },
		"a First and Last of 4":   func(l licences, _ takes) { (*l)[1].First, (*l)[1].Last = 4, 4 },
		"a First and Last of -1":  func(l licences, _ takes) { (*l)[1].First, (*l)[1].Last = -1, -1 },
		"a Last far below":        func(l licences, _ takes) { (*l)[1].Last = -far - 1 },
		"all years there are":     func(l licences, _ takes) { (*l)[1].First, (*l)[1].Last = -far-1, far },
		"a Quota of 101":          func(l licences, _ takes) { (*l)[1].Quota = 101 },
		"a Quota of -1":           func(l licences, _ takes) { (*l)[0].Quota = -1 },
		"a Quota far above":       func(l licences, _ takes) { (*l)[0].Quota = far },
		"7 takes":                 func(_ licences, k takes) { *k = slices.Repeat((*k)[:1], 7) },
		"many takes":              func(_ licences, k takes) { *k = slices.Repeat((*k)[:1], 100000) },
		"a take of 2":             func(_ licences, k takes) { (*k)[3].River = 2 },
		"a take of -1":            func(_ licences, k takes) { (*k)[0].River = -1 },
		"a take of far":           func(_ licences, k takes) { (*k)[0].River = -far - 1 },
		"a Year turned":           func(_ licences, k takes) { (*k)[1].Year = span(1, 0) },
		"a Year of 4":             func(_ licences, k takes) { (*k)[0].Year = span(0, 4) },
		"a Year of 4 only":        func(_ licences, k takes) { (*k)[0].Year = only(4) },
		"a Year of -1":            func(_ licences, k takes) { (*k)[2].Year = span(-1, 0) },
		"a Year of all":           func(_ licences, k takes) { (*k)[2].Year = span(-far-1, far) },
		"a Many of -1":            func(_ licences, k takes) { (*k)[3].Many = -1 },
		"a Many of 101":           func(_ licences, k takes) { (*k)[3].Many = 101 },
		"a Many far above":        func(_ licences, k takes) { (*k)[3].Many = far },
		"a bad one without takes": func(l licences, k takes) { (*l)[0].Quota, *k = 101, nil },
		"and without licences":    func(l licences, k takes) { *l, (*k)[0].Many = nil, 101 },
	}
}

// P8.6: Deals of the chapter's licences and takes.
func TestDealsOfL(t *testing.T) {
	for name, x := range map[string]struct {
		deal []int
		want bool
		rest int
		e    api.Errno
	}{
		"the best":           {list(0, -1, 1, -1), true, 6, api.OK},
		"another one":        {list(-1, 0, 1, -1), true, 7, api.OK},
		"nothing":            {list(-1, -1, -1, -1), true, 16, api.OK},
		"above the Quota":    {list(0, 0, 1, -1), false, 0, api.OK},
		"a closed year":      {list(0, -1, 1, 1), false, 0, api.OK},
		"another river":      {list(1, -1, -1, -1), false, 0, api.OK},
		"another river, 2":   {list(-1, -1, 0, -1), false, 0, api.OK},
		"a number less":      {list(0, -1, 1), false, 0, api.ErrArg},
		"a number more":      {list(0, -1, 1, -1, -1), false, 0, api.ErrArg},
		"no numbers":         {nil, false, 0, api.ErrArg},
		"the licence 2":      {list(0, -1, 2, -1), false, 0, api.ErrArg},
		"the licence -2":     {list(0, -2, 1, -1), false, 0, api.ErrArg},
		"a licence far":      {list(0, -1, far, -1), false, 0, api.ErrArg},
		"a licence far down": {list(-far-1, -1, 1, -1), false, 0, api.ErrArg},
		"no deal, and -2":    {list(0, 0, 1, -2), false, 0, api.ErrArg},
	} {
		got, rest, e := river.Deals(bookB(), licencesL(), takesK(), x.deal)
		wantError(t, name, e, x.e, got, rest)
		if got != x.want || rest != x.rest {
			t.Errorf("%s: %v, %d, want %v, %d", name, got, rest, x.want, x.rest)
		}
	}
	if got, rest, e := river.Deals(bookB(), nil, nil, nil); e != api.OK || !got || rest != 0 {
		t.Errorf("%v, %d, error %d, without takes", got, rest, e)
	}
	if got, rest, e := river.Deals(bookB(), nil, takesK(), list(0, -1, -1, -1)); e != api.ErrArg || got || rest != 0 {
		t.Errorf("%v, %d, error %d, without licences", got, rest, e)
	}
}

// P8.6: Deal of the chapter's licences and takes, and of others.
func TestDealOfL(t *testing.T) {
	zero := func(many int) api.RiverTake { return api.RiverTake{Many: many} }
	one := func(l api.RiverLicence) []api.RiverLicence { return []api.RiverLicence{l} }
	take := func(k ...api.RiverTake) []api.RiverTake { return k }
	for name, x := range map[string]struct {
		l    []api.RiverLicence
		k    []api.RiverTake
		want []int
		rest int
	}{
		"l and k":                   {licencesL(), takesK(), list(0, -1, 1, -1), 6},
		"three that are equal":      {licencesL(), take(zero(5), zero(5), zero(5)), list(-1, 0, 0), 5},
		"no licences":               {nil, takesK(), list(-1, -1, -1, -1), 16},
		"no takes":                  {licencesL(), nil, nil, 0},
		"nothing taken":             {licencesL(), take(zero(0)), list(-1), 0},
		"a Quota of 0":              {one(api.RiverLicence{}), take(zero(0), zero(1)), list(-1, -1), 1},
		"the Quota":                 {one(api.RiverLicence{Quota: 100}), take(zero(100)), list(0), 0},
		"one more":                  {one(api.RiverLicence{Quota: 99}), take(zero(100)), list(-1), 100},
		"the year 2 is closed":      {one(api.RiverLicence{Last: 3, Quota: 9}), take(api.RiverTake{Year: span(1, 2), Many: 3}, api.RiverTake{Year: only(3), Many: 3}), list(-1, 0), 3},
		"closed within the span":    {one(api.RiverLicence{Last: 3, Quota: 9}), take(api.RiverTake{Year: span(0, 3), Many: 3}), list(-1), 3},
		"a year before":             {one(api.RiverLicence{First: 1, Last: 1, Quota: 9}), take(api.RiverTake{Year: span(0, 1), Many: 3}), list(-1), 3},
		"a year after":              {one(api.RiverLicence{Last: 0, Quota: 9}), take(api.RiverTake{Year: span(0, 1), Many: 3}), list(-1), 3},
		"of licences the first one": {[]api.RiverLicence{{Quota: 5}, {Quota: 5}}, take(zero(5)), list(0), 0},
		"some of the greatest":      {one(api.RiverLicence{Quota: 10}), take(zero(7), zero(6), zero(4), zero(3)), list(-1, 0, 0, -1), 10},
		"two licences are filled":   {[]api.RiverLicence{{Quota: 10}, {Quota: 10}}, take(zero(7), zero(6), zero(4), zero(3)), list(0, 1, 1, 0), 0},
		"the most": {slices.Repeat(one(api.RiverLicence{Quota: 100}), 4), slices.Repeat(take(zero(100)), 6),
			list(-1, -1, 0, 1, 2, 3), 200},
	} {
		got, rest, e := river.Deal(bookB(), x.l, x.k)
		if e != api.OK || !slices.Equal(got, x.want) || rest != x.rest {
			t.Errorf("%s: %v, %d, error %d, want %v, %d", name, got, rest, e, x.want, x.rest)
		}
	}
}

// P8.6: Deals and Deal have ErrArg for what is not as defined.
func TestBadDeals(t *testing.T) {
	check := func(name string, b api.RiverBook, l []api.RiverLicence, k []api.RiverTake) {
		is, rest, e := river.Deals(b, l, k, slices.Repeat(list(-1), len(k)))
		wantError(t, name, e, api.ErrArg, is, rest)
		deal, rest, e := river.Deal(b, l, k)
		wantError(t, name, e, api.ErrArg, deal, rest)
	}
	for name, b := range badBooks() {
		check(name, b, nil, nil)
	}
	for name, change := range badMarkets() {
		l, k := licencesL(), takesK()
		change(&l, &k)
		check(name, bookB(), l, k)
	}
}

// marketBy returns licences and takes by chance.
func marketBy(d *dice, b api.RiverBook) (l []api.RiverLicence, k []api.RiverTake) {
	many := []int{3, 10, 100}[d.upTo(2)]
	years := func() api.Span {
		first := d.upTo(b.Years - 1)
		return span(first, d.from(first, b.Years-1))
	}
	for range d.upTo(api.RiverLicences) {
		s := years()
		if d.upTo(1) == 0 {
			s = span(0, b.Years-1)
		}
		l = append(l, api.RiverLicence{River: d.upTo(len(b.Rivers) - 1), First: s.Low, Last: s.High, Quota: d.upTo(many)})
	}
	for range d.upTo(api.RiverTakes) {
		s := years()
		if d.upTo(2) > 0 {
			s = only(s.Low)
		}
		k = append(k, api.RiverTake{River: d.upTo(len(b.Rivers) - 1), Year: s, Many: d.upTo(many)})
	}
	return l, k
}

// allLists goes through all lists of so many numbers from -1 to one less than another number, in lexicographic order.
func allLists(takes, licences int) iter.Seq[[]int] {
	return func(yield func([]int) bool) {
		l := slices.Repeat(list(-1), takes)
		for yield(l) {
			i := takes - 1
			for i >= 0 && l[i] == licences-1 {
				l[i] = -1
				i--
			}
			if i < 0 {
				return
			}
			l[i]++
		}
	}
}

// restOf returns the rest of a list; false if it is no deal.
func restOf(b api.RiverBook, l []api.RiverLicence, k []api.RiverTake, deal []int) (int, bool) {
	rest := 0
	used := map[int]int{}
	for i, n := range deal {
		if n < 0 {
			rest += k[i].Many
			continue
		}
		used[n] += k[i].Many
		for year := k[i].Year.Low; year <= k[i].Year.High; year++ {
			if year < l[n].First || year > l[n].Last || isClosed(b, origin(k[i].River, year)) {
				return 0, false
			}
		}
		if l[n].River != k[i].River || used[n] > l[n].Quota {
			return 0, false
		}
	}
	return rest, true
}

// P8.6: Deals and Deal return what the chapter defines; no deal that somebody proposes has a lesser rest.
func TestDealsByChance(t *testing.T) {
	d := dice(12)
	asked, some := 0, 0
	for range 2000 {
		b := bookBy(&d, []size{small(), alike()}[d.upTo(1)])
		for i := range b.Rivers {
			b.Rivers[i].Closed &= d.upTo(1<<b.Years - 1)
		}
		l, k := marketBy(&d, b)
		var best []int
		least := -1
		for deal := range allLists(len(k), len(l)) {
			rest, is := restOf(b, l, k, deal)
			if is && (least < 0 || rest < least) {
				best, least = slices.Clone(deal), rest
			}
			if d.upTo(20) > 0 {
				continue
			}
			asked++
			if got, n, e := river.Deals(b, l, k, deal); e != api.OK || got != is || n != rest {
				t.Fatalf("%v, %v, %v, %v: %v, %d, error %d, want %v, %d", b, l, k, deal, got, n, e, is, rest)
			}
		}
		got, rest, e := river.Deal(b, l, k)
		if e != api.OK || !slices.Equal(got, best) || rest != least {
			t.Fatalf("%v, %v, %v: %v, %d, error %d, want %v, %d", b, l, k, got, rest, e, best, least)
		}
		if slices.ContainsFunc(best, func(n int) bool { return n > 0 }) {
			some++
		}
	}
	if asked < 10000 || some < 300 {
		t.Errorf("%d were asked, %d have a licence but the first one", asked, some)
	}
}
