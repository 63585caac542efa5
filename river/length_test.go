package river_test

import (
	"testing"

	"nacre/api"
	"nacre/river"
)

// thinBook returns a book of a river in which rings can be near 0.
func thinBook() api.RiverBook {
	return api.RiverBook{Years: 3, Rivers: []api.RiverRiver{{Grow: []api.Span{span(1, 2), only(5), only(0)}, Vary: 3}}}
}

// P8.5: Length of the book b and others, the chapter's example among others.
func TestLengthOfB(t *testing.T) {
	for name, x := range map[string]struct {
		b               api.RiverBook
		river, from, to int
		want            api.Span
		e               api.Errno
	}{
		"0 from 0 to 2":    {bookB(), 0, 0, 2, span(29, 40), api.OK},
		"0 in 1":           {bookB(), 0, 1, 1, span(13, 17), api.OK},
		"0 in all years":   {bookB(), 0, 0, 3, span(48, 63), api.OK},
		"0 in 3":           {bookB(), 0, 3, 3, span(19, 23), api.OK},
		"1 in all years":   {bookB(), 1, 0, 3, span(46, 51), api.OK},
		"1 in 2":           {bookB(), 1, 2, 2, only(15), api.OK},
		"not less than 0":  {thinBook(), 0, 0, 0, span(0, 5), api.OK},
		"0, but not later": {thinBook(), 0, 0, 1, span(2, 13), api.OK},
		"0, and again":     {thinBook(), 0, 0, 2, span(2, 16), api.OK},
		"nothing grows":    {bareBook(), 0, 0, 0, only(0), api.OK},
		"the most":         {fullBook(), 2, 0, 5, span(198, 258), api.OK},
		"the river 2":      {bookB(), 2, 0, 0, only(0), api.ErrArg},
		"the river -1":     {bookB(), -1, 0, 0, only(0), api.ErrArg},
		"a river far":      {bookB(), far, 0, 0, only(0), api.ErrArg},
		"to before from":   {bookB(), 0, 2, 1, only(0), api.ErrArg},
		"to the year 4":    {bookB(), 0, 0, 4, only(0), api.ErrArg},
		"from the year 4":  {bookB(), 0, 4, 4, only(0), api.ErrArg},
		"from -1":          {bookB(), 0, -1, 0, only(0), api.ErrArg},
		"to -1":            {bookB(), 0, 0, -1, only(0), api.ErrArg},
		"both -1":          {bookB(), 0, -1, -1, only(0), api.ErrArg},
		"to a year far":    {bookB(), 0, 0, far, only(0), api.ErrArg},
		"from a year far":  {bookB(), 0, -far - 1, far, only(0), api.ErrArg},
	} {
		got, e := river.Length(x.b, x.river, x.from, x.to)
		wantError(t, name, e, x.e, got)
		if got != x.want {
			t.Errorf("%s: %v, want %v", name, got, x.want)
		}
	}
	for name, b := range badBooks() {
		got, e := river.Length(b, 0, 0, 0)
		wantError(t, name, e, api.ErrArg, got)
	}
}

// P8.5: Ripe of the book b and others, the chapter's examples among others.
func TestRipeOfB(t *testing.T) {
	for name, x := range map[string]struct {
		b                       api.RiverBook
		river, from, size, want int
		e                       api.Errno
	}{
		"25 from 0":          {bookB(), 0, 0, 25, 2, api.OK},
		"9 from 0":           {bookB(), 0, 0, 9, 0, api.OK},
		"10 from 0":          {bookB(), 0, 0, 10, 1, api.OK},
		"22 from 0":          {bookB(), 0, 0, 22, 1, api.OK},
		"23 from 0":          {bookB(), 0, 0, 23, 2, api.OK},
		"29 from 0":          {bookB(), 0, 0, 29, 2, api.OK},
		"30 from 0":          {bookB(), 0, 0, 30, 3, api.OK},
		"48 from 0":          {bookB(), 0, 0, 48, 3, api.OK},
		"49 from 0":          {bookB(), 0, 0, 49, 0, api.ErrNone},
		"60 from 0":          {bookB(), 0, 0, 60, 0, api.ErrNone},
		"300 from 0":         {bookB(), 0, 0, 300, 0, api.ErrNone},
		"0 from 0":           {bookB(), 0, 0, 0, 0, api.OK},
		"0 from 3":           {bookB(), 0, 3, 0, 3, api.OK},
		"19 from 3":          {bookB(), 0, 3, 19, 3, api.OK},
		"20 from 3":          {bookB(), 0, 3, 20, 0, api.ErrNone},
		"25 from 2, river 1": {bookB(), 1, 2, 25, 3, api.OK},
		"0 that is thin":     {thinBook(), 0, 0, 0, 0, api.OK},
		"1 that is thin":     {thinBook(), 0, 0, 1, 1, api.OK},
		"2 that is thin":     {thinBook(), 0, 0, 2, 1, api.OK},
		"3 that is thin":     {thinBook(), 0, 0, 3, 0, api.ErrNone},
		"0 when none grows":  {bareBook(), 0, 0, 0, 0, api.OK},
		"1 when none grows":  {bareBook(), 0, 0, 1, 0, api.ErrNone},
		"198 of the most":    {fullBook(), 2, 0, 198, 5, api.OK},
		"199 of the most":    {fullBook(), 2, 0, 199, 0, api.ErrNone},
		"the year 4":         {bookB(), 1, 4, 1, 0, api.ErrArg},
		"the year -1":        {bookB(), 1, -1, 1, 0, api.ErrArg},
		"a year far":         {bookB(), 1, -far - 1, 1, 0, api.ErrArg},
		"the river 2":        {bookB(), 2, 0, 1, 0, api.ErrArg},
		"the river -1":       {bookB(), -1, 0, 1, 0, api.ErrArg},
		"301":                {bookB(), 0, 0, 301, 0, api.ErrArg},
		"-1":                 {bookB(), 0, 0, -1, 0, api.ErrArg},
		"a size far":         {bookB(), 0, 0, -far - 1, 0, api.ErrArg},
	} {
		got, e := river.Ripe(x.b, x.river, x.from, x.size)
		wantError(t, name, e, x.e, got)
		if got != x.want {
			t.Errorf("%s: %d, want %d", name, got, x.want)
		}
	}
	for name, b := range badBooks() {
		got, e := river.Ripe(b, 0, 0, 0)
		wantError(t, name, e, api.ErrArg, got)
	}
}

// lengthsOf returns all sums that the rings of some years of a river can have, by trying all weather and all rings.
func lengthsOf(r api.RiverRiver, from, to int) map[int]bool {
	sums := map[int]bool{0: true}
	for year := from; year <= to; year++ {
		longer := map[int]bool{}
		for n := r.Grow[year].Low; n <= r.Grow[year].High; n++ {
			for ring := max(0, n-r.Vary); ring <= n+r.Vary; ring++ {
				for sum := range sums {
					longer[sum+ring] = true
				}
			}
		}
		sums = longer
	}
	return sums
}

// P8.5: Length and Ripe return what all weather and all rings say; whatever is true, a length lies within the bounds.
func TestLengthsByChance(t *testing.T) {
	d := dice(11)
	ripe, never := 0, 0
	for range 2000 {
		b := bookBy(&d, []size{small(), alike(), large()}[d.upTo(2)])
		n := d.upTo(len(b.Rivers) - 1)
		from := d.upTo(b.Years - 1)
		size := d.upTo(40 * (b.Years - from))
		want, wantE := 0, api.ErrNone
		for to := from; to < b.Years; to++ {
			var s ends
			for sum := range lengthsOf(b.Rivers[n], from, to) {
				s.add(sum)
			}
			if got, e := river.Length(b, n, from, to); e != api.OK || got != s.Span {
				t.Fatalf("%v, %d, %d, %d: %v, error %d, want %v", b, n, from, to, got, e, s.Span)
			}
			if wantE != api.OK && s.Low >= size {
				want, wantE = to, api.OK
			}
		}
		if got, e := river.Ripe(b, n, from, size); e != wantE || got != want {
			t.Fatalf("%v, %d, %d, %d: %d, error %d, want %d, error %d", b, n, from, size, got, e, want, wantE)
		}
		if wantE == api.OK {
			ripe++
		} else {
			never++
		}
	}
	if ripe < 300 || never < 300 {
		t.Errorf("%d are ripe, %d never are", ripe, never)
	}
}
