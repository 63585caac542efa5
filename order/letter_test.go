package order_test

import (
	"slices"
	"testing"

	"nacre/api"
	"nacre/order"
)

// The letters of the chapter.
func letters() []api.OrderLetter {
	return []api.OrderLetter{letter(1, 24, 24, 5), letter(2, 20, 20, 7), letter(0, 30, 30, 1)}
}

// The buyers of the chapter.
func buyerX() api.OrderBuyer { return buyer(3, letters()[:1]...) }

func buyerY() api.OrderBuyer { return buyer(3, letters()[:2]...) }

func buyerZ() api.OrderBuyer { return buyer(3, letters()...) }

// badBuyers returns buyers that are not as defined, with the book b.
func badBuyers() map[string]api.OrderBuyer {
	bad := map[string]api.OrderBuyer{"nothing": {}}
	type buyer = *api.OrderBuyer
	for name, change := range map[string]func(x buyer){
		"no editions":            func(x buyer) { x.Editions = 0 },
		"the edition 2":          func(x buyer) { x.Editions = 4 },
		"the edition 2 too":      func(x buyer) { x.Editions = 7 },
		"Editions of -1":         func(x buyer) { x.Editions = -1 },
		"Editions far":           func(x buyer) { x.Editions = far },
		"Editions far below":     func(x buyer) { x.Editions = -far - 1 },
		"no letters":             func(x buyer) { x.Letters = nil },
		"5 letters":              func(x buyer) { x.Letters = slices.Repeat(x.Letters[:1], 5) },
		"many letters":           func(x buyer) { x.Letters = slices.Repeat(x.Letters[:1], 100000) },
		"the number 4":           func(x buyer) { x.Letters[1].Number = 4 },
		"the number -1":          func(x buyer) { x.Letters[0].Number = -1 },
		"a number far":           func(x buyer) { x.Letters[1].Number = far },
		"a number far below":     func(x buyer) { x.Letters[1].Number = -far - 1 },
		"Lines from 0":           func(x buyer) { x.Letters[0].Lines.Low = 0 },
		"Lines from -1":          func(x buyer) { x.Letters[0].Lines.Low = -1 },
		"Lines from far":         func(x buyer) { x.Letters[0].Lines.Low = -far - 1 },
		"Lines to 100":           func(x buyer) { x.Letters[1].Lines.High = 100 },
		"Lines of 100":           func(x buyer) { x.Letters[1].Lines = only(100) },
		"Lines to far":           func(x buyer) { x.Letters[1].Lines.High = far },
		"Lines that are turned":  func(x buyer) { x.Letters[1].Lines = span(24, 23) },
		"that are turned far":    func(x buyer) { x.Letters[1].Lines = span(far, -far-1) },
		"Many of -1":             func(x buyer) { x.Letters[1].Many = -1 },
		"Many of 1001":           func(x buyer) { x.Letters[0].Many = 1001 },
		"Many far":               func(x buyer) { x.Letters[0].Many = far },
		"Many far below":         func(x buyer) { x.Letters[0].Many = -far - 1 },
		"untrue, and Many of -1": func(x buyer) { x.Letters[0], x.Letters[1].Many = letters()[2], -1 },
	} {
		x := buyerY()
		change(&x)
		bad[name] = x
	}
	return bad
}

// P9.3: Reads, Which and Wants of the chapter's buyers, and of others.
func TestLettersOfB(t *testing.T) {
	l := letters()
	none := only(0)
	wide := bareBook(5, 3, 2)
	for name, x := range map[string]struct {
		b     api.OrderBook
		x     api.OrderBuyer
		reads [][]int
		which []int
		wants []api.Span
		e     api.Errno
	}{
		"x":                         {bookB(), buyerX(), lists(list(1, 2)), list(0, 1), []api.Span{none, span(0, 5), span(0, 5), none}, api.OK},
		"y":                         {bookB(), buyerY(), lists(list(2), list(0)), list(0), []api.Span{only(7), none, only(5), none}, api.OK},
		"z":                         {bookB(), buyerZ(), nil, nil, nil, api.ErrRule},
		"x with the edition 0":      {bookB(), buyer(1, l[0]), lists(list(2)), list(0), []api.Span{none, none, only(5), none}, api.OK},
		"x with the edition 1":      {bookB(), buyer(2, l[0]), lists(list(1, 2)), list(1), []api.Span{none, span(0, 5), span(0, 5), none}, api.OK},
		"y with the edition 1":      {bookB(), buyer(2, l[0], l[1]), nil, nil, nil, api.ErrRule},
		"y with all Lines":          {bookB(), buyer(3, letter(1, 1, 99, 5), letter(2, 1, 99, 7)), lists(list(0, 1, 2), list(0, 1, 2)), list(0, 1), []api.Span{span(0, 7), span(0, 7), span(5, 7), none}, api.OK},
		"a letter twice":            {bookB(), buyer(3, l[0], l[0]), lists(list(1, 2), list(1, 2)), list(0, 1), []api.Span{none, span(0, 10), span(0, 10), none}, api.OK},
		"a Line below":              {bookB(), buyer(3, letter(3, 31, 99, 1)), nil, nil, nil, api.ErrRule},
		"a Line above":              {bookB(), buyer(3, letter(3, 1, 29, 1)), nil, nil, nil, api.ErrRule},
		"to the Line":               {bookB(), buyer(3, letter(3, 1, 30, 1)), lists(list(3)), list(0, 1), []api.Span{none, none, none, only(1)}, api.OK},
		"from the Line":             {bookB(), buyer(3, letter(3, 30, 99, 1)), lists(list(3)), list(0, 1), []api.Span{none, none, none, only(1)}, api.OK},
		"one number, two sizes":     {bookB(), buyer(3, letter(0, 20, 20, 1), letter(0, 24, 24, 1)), nil, nil, nil, api.ErrRule},
		"one number in each":        {bookB(), buyer(3, letter(0, 20, 24, 3)), lists(list(0, 1)), list(0, 1), []api.Span{span(0, 3), span(0, 3), none, none}, api.OK},
		"nothing is wanted":         {bookB(), buyer(3, letter(3, 1, 99, 0)), lists(list(3)), list(0, 1), slices.Repeat([]api.Span{none}, 4), api.OK},
		"the most":                  {wide, buyer(7, slices.Repeat([]api.OrderLetter{letter(4, 1, 99, 1000)}, 4)...), slices.Repeat(lists(list(0, 1, 2, 3, 4)), 4), list(0, 1, 2), slices.Repeat([]api.Span{span(0, 4000)}, 5), api.OK},
		"two numbers, not the same": {wide, buyer(2, letter(0, 2, 2, 1), letter(1, 2, 2, 1)), nil, nil, nil, api.ErrRule},
		"two numbers tell a third":  {bareBook(3, 1, 0), buyer(1, letter(0, 1, 1, 2), letter(1, 3, 3, 4), letter(2, 1, 99, 8)), lists(list(0), list(2), list(1)), list(0), []api.Span{only(2), only(8), only(4)}, api.OK},
		"the editions 0 and 2":      {with(bareBook(2, 3, 2), entry(1, 0, 0)), buyer(5, letter(0, 1, 1, 6)), lists(list(0)), list(0, 2), []api.Span{only(6), none}, api.OK},
		"not the middle one":        {with(bareBook(2, 3, 2), entry(1, 0, 0)), buyer(7, letter(0, 2, 2, 6)), lists(list(1)), list(0, 2), []api.Span{none, only(6)}, api.OK},
	} {
		reads, e := order.Reads(x.b, x.x)
		wantError(t, name, e, x.e, reads)
		which, e := order.Which(x.b, x.x)
		wantError(t, name, e, x.e, which)
		wants, e := order.Wants(x.b, x.x)
		wantError(t, name, e, x.e, wants)
		if !sameLists(reads, x.reads) || !slices.Equal(which, x.which) || !slices.Equal(wants, x.wants) {
			t.Errorf("%s: %v, %v, %v, want %v, %v, %v", name, reads, which, wants, x.reads, x.which, x.wants)
		}
	}
}

// P9.4: Odd of the chapter's buyers, and of others.
func TestOddOfB(t *testing.T) {
	l := letters()
	for name, x := range map[string]struct {
		x    api.OrderBuyer
		want []int
	}{
		"x":                            {buyerX(), nil},
		"y":                            {buyerY(), nil},
		"z":                            {buyerZ(), list(2)},
		"y with the edition 1":         {buyer(2, l[0], l[1]), list(1)},
		"the last letter of z alone":   {buyer(3, l[2]), list(0)},
		"it twice":                     {buyer(3, l[2], l[2]), list(0, 1)},
		"it first":                     {buyer(3, l[2], l[0], l[1]), list(0)},
		"it twice among others":        {buyer(3, l[0], l[2], l[1], l[2]), list(1, 3)},
		"either of two":                {buyer(3, letter(0, 20, 20, 1), letter(0, 24, 24, 1)), list(0)},
		"two are more than one":        {buyer(3, letter(0, 20, 20, 1), letter(0, 24, 24, 1), letter(0, 24, 24, 1)), list(0)},
		"two of four":                  {buyer(3, letter(0, 20, 20, 1), letter(0, 24, 24, 1), letter(0, 24, 24, 1), letter(0, 20, 20, 1)), list(0, 3)},
		"all four":                     {buyer(3, l[2], l[2], l[2], l[2]), list(0, 1, 2, 3)},
		"not in one edition":           {buyer(1, letter(0, 20, 20, 1), letter(0, 24, 24, 1)), list(0)},
		"in the other one":             {buyer(2, letter(0, 20, 20, 1), letter(0, 24, 24, 1)), list(1)},
		"the same edition for them":    {buyer(3, letter(0, 24, 24, 1), letter(0, 20, 20, 1), letter(2, 24, 24, 1), letter(1, 20, 20, 1)), list(1)},
		"though one alone can be true": {buyer(1, letter(1, 20, 20, 1), letter(2, 20, 20, 1)), list(0)},
	} {
		if got, e := order.Odd(bookB(), x.x); e != api.OK || !slices.Equal(got, x.want) {
			t.Errorf("%s: %v, error %d, want %v", name, got, e, x.want)
		}
	}
}

// P9.3 and P9.4: ErrArg for what is not as defined, ErrRule for a book that is not possible, in this order.
func TestLettersWithErrors(t *testing.T) {
	check := func(name string, b api.OrderBook, x api.OrderBuyer, want api.Errno) {
		t.Helper()
		reads, e := order.Reads(b, x)
		wantError(t, name, e, want, reads)
		which, e := order.Which(b, x)
		wantError(t, name, e, want, which)
		wants, e := order.Wants(b, x)
		wantError(t, name, e, want, wants)
		odd, e := order.Odd(b, x)
		wantError(t, name, e, want, odd)
	}
	for name, b := range badBooks() {
		check(name, b, buyerX(), api.ErrArg)
	}
	for name, b := range tornBooks() {
		check(name, b, buyer(3, letter(1, 1, 99, 5)), api.ErrRule)
		check(name, b, buyer(3, letter(1, 50, 99, 5)), api.ErrRule)
		check(name, b, buyer(3), api.ErrArg)
		check(name, b, buyer(8, letter(1, 1, 99, 5)), api.ErrArg)
	}
	for name, x := range badBuyers() {
		check(name, bookB(), x, api.ErrArg)
	}
}

// tale is what a buyer's letters tell.
type tale struct {
	reads [][]int
	which []int
	wants []api.Span
}

// told returns what a buyer's letters tell, by all truths of a book; false if they never are all true.
func told(b api.OrderBook, x api.OrderBuyer, all [][][]int) (tale, bool) {
	s := tale{reads: make([][]int, len(x.Letters)), wants: make([]api.Span, len(b.Goods))}
	found := false
	for _, means := range all {
		for edition, l := range means {
			if x.Editions&(1<<edition) == 0 || slices.ContainsFunc(x.Letters, func(y api.OrderLetter) bool { return !isTrue(b, y, l) }) {
				continue
			}
			sums := make([]int, len(b.Goods))
			for i, y := range x.Letters {
				s.reads[i] = append(s.reads[i], l[y.Number])
				sums[l[y.Number]] += y.Many
			}
			s.which = append(s.which, edition)
			for good, n := range sums {
				if !found {
					s.wants[good] = only(n)
				}
				s.wants[good] = span(min(s.wants[good].Low, n), max(s.wants[good].High, n))
			}
			found = true
		}
	}
	for i := range s.reads {
		s.reads[i] = set(s.reads[i])
	}
	s.which = set(s.which)
	return s, found
}

// set returns some numbers in increasing order, each of them once.
func set(l []int) []int {
	l = slices.Clone(l)
	slices.Sort(l)
	return slices.Compact(l)
}

// without returns a buyer without some letters.
func without(x api.OrderBuyer, odd []int) api.OrderBuyer {
	y := buyer(x.Editions)
	for i, l := range x.Letters {
		if !slices.Contains(odd, i) {
			y.Letters = append(y.Letters, l)
		}
	}
	return y
}

// fewest returns the letters that are odd, by trying all lists, shorter ones first.
func fewest(b api.OrderBook, x api.OrderBuyer, all [][][]int) []int {
	var some [][]int
	for bits := range 1 << len(x.Letters) {
		var l []int
		for i := range x.Letters {
			if bits>>i&1 == 1 {
				l = append(l, i)
			}
		}
		some = append(some, l)
	}
	slices.SortFunc(some, func(a, b []int) int {
		if len(a) != len(b) {
			return len(a) - len(b)
		}
		return slices.Compare(a, b)
	})
	i := slices.IndexFunc(some, func(l []int) bool {
		_, found := told(b, without(x, l), all)
		return found
	})
	return some[i]
}

// P9.3 and P9.4: all four return what the chapter defines, by trying all truths.
func TestLettersByChance(t *testing.T) {
	d := dice(6)
	count := map[string]int{}
	for n := range 6000 {
		b, means := bookBy(&d, small()[d.upTo(3)])
		if n%40 == 0 {
			b, means = largeBy(&d)
		}
		x, _ := buyerBy(&d, b, means, d.upTo(2) > 0)
		all := truths(b)
		s, found := told(b, x, all)
		want := api.OK
		if !found {
			want = api.ErrRule
			s = tale{}
		}
		reads, e := order.Reads(b, x)
		which, f := order.Which(b, x)
		wants, g := order.Wants(b, x)
		if e != want || f != want || g != want || !sameLists(reads, s.reads) || !slices.Equal(which, s.which) || !slices.Equal(wants, s.wants) {
			t.Fatalf("%v, %v: %v, %v, %v, errors %d %d %d, want %v, error %d", b, x, reads, which, wants, e, f, g, s, want)
		}
		odd, e := order.Odd(b, x)
		if most := fewest(b, x, all); e != api.OK || !slices.Equal(odd, most) {
			t.Fatalf("%v, %v: %v, error %d, want %v", b, x, odd, e, most)
		}
		switch {
		case len(odd) > 1:
			count["many odd"]++
		case len(odd) > 0:
			count["one odd"]++
		case len(which) < len(set(editionsOf(x))):
			count["fewer editions"]++
		case slices.ContainsFunc(wants, func(s api.Span) bool { return s.Low > 0 && s.Low < s.High }):
			count["some surely wanted"]++
		default:
			count["no odd"]++
		}
	}
	for _, name := range []string{"many odd", "one odd", "fewer editions", "some surely wanted", "no odd"} {
		if count[name] < 100 {
			t.Errorf("%v", count)
		}
	}
}

// editionsOf returns the editions that a buyer can have by what is known at first.
func editionsOf(x api.OrderBuyer) []int {
	var some []int
	for edition := range api.OrderEditions {
		if x.Editions>>edition&1 == 1 {
			some = append(some, edition)
		}
	}
	return some
}

// P9.3 and P0.9: whatever is true, if all letters are true, what each one means, the buyer's edition, and what is wanted are among what is returned.
func TestLettersWhateverIsTrue(t *testing.T) {
	d := dice(7)
	for range 1000 {
		b, means := bookBy(&d, size{5, 3})
		x, edition := buyerBy(&d, b, means, false)
		reads, e := order.Reads(b, x)
		which, f := order.Which(b, x)
		wants, g := order.Wants(b, x)
		if e != api.OK || f != api.OK || g != api.OK || !slices.Contains(which, edition) {
			t.Fatalf("%v, %v: %v, errors %d %d %d, has %d", b, x, which, e, f, g, edition)
		}
		sums := make([]int, len(b.Goods))
		for i, l := range x.Letters {
			good := means[edition][l.Number]
			sums[good] += l.Many
			if !slices.Contains(reads[i], good) {
				t.Fatalf("%v, %v: the letter %d means %v, in truth %d", b, x, i, reads[i], good)
			}
		}
		for good, n := range sums {
			if n < wants[good].Low || n > wants[good].High {
				t.Fatalf("%v, %v: wants %v, in truth %v", b, x, wants, sums)
			}
		}
		if odd, e := order.Odd(b, x); e != api.OK || len(odd) > 0 {
			t.Fatalf("%v, %v: %v, error %d", b, x, odd, e)
		}
	}
}

// P9.4: without the letters that are odd, all others are true in some truth; no fewer letters that somebody proposes are enough.
func TestOddWhateverIsProposed(t *testing.T) {
	d := dice(8)
	some := 0
	for range 1000 {
		b, means := bookBy(&d, size{5, 3})
		x, _ := buyerBy(&d, b, means, true)
		odd, e := order.Odd(b, x)
		if e != api.OK || !slices.IsSorted(odd) {
			t.Fatalf("%v, %v: %v, error %d", b, x, odd, e)
		}
		if rest := without(x, odd); len(rest.Letters) > 0 {
			if _, e := order.Reads(b, rest); e != api.OK {
				t.Fatalf("%v, %v: without %v error %d", b, x, odd, e)
			}
		}
		for bits := range 1<<len(x.Letters) - 1 {
			var proposed []int
			for i := range x.Letters {
				if bits>>i&1 == 1 {
					proposed = append(proposed, i)
				}
			}
			if len(proposed) >= len(odd) {
				continue
			}
			some++
			if _, e := order.Reads(b, without(x, proposed)); e != api.ErrRule {
				t.Fatalf("%v, %v: %v are odd, but not without %v: error %d", b, x, odd, proposed, e)
			}
		}
	}
	if some < 500 {
		t.Errorf("%d were proposed", some)
	}
}
