package order_test

import (
	"slices"
	"testing"

	"nacre/api"
	"nacre/order"
)

// P9.1: Check returns OK for books that are as defined, and ErrArg for others.
func TestCheck(t *testing.T) {
	good := map[string]api.OrderBook{
		"b":             bookB(),
		"the least":     bareBook(2, 1, 0),
		"the most":      fullBook(),
		"Lines of 99":   changed(func(b *api.OrderBook) { b.Goods[2].Line = 99 }),
		"Lines of 1":    changed(func(b *api.OrderBook) { b.Goods[3].Line = 1 }),
		"Moves of 5":    changed(func(b *api.OrderBook) { b.Moves = 5 }),
		"no entries":    changed(func(b *api.OrderBook) { b.Entries = nil }),
		"3 editions":    changed(func(b *api.OrderBook) { b.Editions = 3 }),
		"8 entries":     with(bookB(), slices.Repeat([]api.OrderEntry{entry(0, 0, 1)}, 5)...),
		"equal entries": with(bookB(), bookB().Entries...),
	}
	for name, b := range tornBooks() {
		good["not possible: "+name] = b
	}
	for name, b := range good {
		if e := order.Check(b); e != api.OK {
			t.Errorf("%s: error %d", name, e)
		}
	}
	for name, b := range badBooks() {
		wantError(t, name, order.Check(b), api.ErrArg)
	}
}

// P9.1: Fits of the book b, and of one with three editions.
func TestFitsB(t *testing.T) {
	three := api.OrderBook{Goods: goods(1, 1, 1), Editions: 3, Moves: 2}
	for name, x := range map[string]struct {
		b     api.OrderBook
		means [][]int
		want  bool
		e     api.Errno
	}{
		"a truth":                   {bookB(), lists(list(1, 0, 2, 3), list(0, 1, 2, 3)), true, api.OK},
		"the other one":             {bookB(), lists(list(1, 2, 0, 3), list(0, 2, 1, 3)), true, api.OK},
		"three are others":          {bookB(), lists(list(1, 0, 2, 3), list(0, 2, 1, 3)), false, api.OK},
		"not as an entry says":      {bookB(), lists(list(0, 1, 2, 3), list(0, 1, 2, 3)), false, api.OK},
		"not as a later one says":   {bookB(), lists(list(1, 0, 2, 3), list(1, 0, 2, 3)), false, api.OK},
		"two mean the same":         {bookB(), lists(list(1, 2, 2, 3), list(0, 2, 1, 3)), false, api.OK},
		"later":                     {bookB(), lists(list(1, 0, 2, 3), list(0, 2, 2, 3)), false, api.OK},
		"all mean the same":         {bookB(), lists(list(1, 1, 1, 1), list(0, 0, 0, 0)), false, api.OK},
		"an edition less":           {bookB(), lists(list(1, 0, 2, 3)), false, api.ErrArg},
		"an edition more":           {bookB(), lists(list(1, 0, 2, 3), list(0, 1, 2, 3), list(0, 1, 2, 3)), false, api.ErrArg},
		"no editions":               {bookB(), nil, false, api.ErrArg},
		"a number less":             {bookB(), lists(list(1, 0, 2, 3), list(0, 1, 2)), false, api.ErrArg},
		"a number more":             {bookB(), lists(list(1, 0, 2, 3, 0), list(0, 1, 2, 3)), false, api.ErrArg},
		"no numbers":                {bookB(), lists(nil, list(0, 1, 2, 3)), false, api.ErrArg},
		"the good 4":                {bookB(), lists(list(1, 0, 2, 4), list(0, 1, 2, 3)), false, api.ErrArg},
		"the good -1":               {bookB(), lists(list(1, 0, 2, 3), list(0, -1, 2, 3)), false, api.ErrArg},
		"one of the goods far":      {bookB(), lists(list(1, 0, 2, 3), list(0, 1, 2, far)), false, api.ErrArg},
		"far below":                 {bookB(), lists(list(-far-1, 0, 2, 3), list(0, 1, 2, 3)), false, api.ErrArg},
		"no truth, and the good 4":  {bookB(), lists(list(0, 0, 0, 0), list(0, 1, 2, 4)), false, api.ErrArg},
		"two others each time":      {three, lists(list(0, 1, 2), list(1, 0, 2), list(1, 2, 0)), true, api.OK},
		"back again":                {three, lists(list(0, 1, 2), list(0, 2, 1), list(0, 1, 2)), true, api.OK},
		"none are others":           {three, lists(list(2, 1, 0), list(2, 1, 0), list(2, 1, 0)), true, api.OK},
		"three others at first":     {three, lists(list(0, 1, 2), list(1, 2, 0), list(1, 2, 0)), false, api.OK},
		"three others in the end":   {three, lists(list(0, 1, 2), list(0, 1, 2), list(2, 0, 1)), false, api.OK},
		"with more Moves than that": {bareBook(3, 2, 3), lists(list(0, 1, 2), list(2, 0, 1)), true, api.OK},
	} {
		got, e := order.Fits(x.b, api.OrderTruth{Means: x.means})
		wantError(t, name, e, x.e, got)
		if got != x.want {
			t.Errorf("%s: %v", name, got)
		}
	}
}

// P9.1: nothing fits a book that is not possible; Fits has ErrArg for one that is not as defined.
func TestFitsOfTornBooks(t *testing.T) {
	for name, b := range tornBooks() {
		for means := range alls(b, everyEdition) {
			if got, e := order.Fits(b, api.OrderTruth{Means: means}); e != api.OK || got {
				t.Fatalf("%s: %v: %v, error %d", name, means, got, e)
			}
		}
	}
	for name, b := range badBooks() {
		for _, means := range [][][]int{nil, lists(list(1, 0, 2, 3), list(0, 1, 2, 3))} {
			got, e := order.Fits(b, api.OrderTruth{Means: means})
			wantError(t, name, e, api.ErrArg, got)
		}
	}
}

// P9.1: Fits returns what the chapter defines, also if two numbers mean the same.
func TestFitsByChance(t *testing.T) {
	d := dice(1)
	answers := map[bool]int{}
	for range 20000 {
		b, means := bookBy(&d, size{5, 3})
		if d.upTo(1) == 0 {
			b = tornBy(&d, b)
		}
		if d.upTo(2) > 0 {
			edition, number := d.upTo(b.Editions-1), d.upTo(len(b.Goods)-1)
			other := d.upTo(len(b.Goods) - 1)
			now := means[edition]
			if d.upTo(2) > 0 {
				now[slices.Index(now, other)] = now[number]
			}
			now[number] = other
		}
		want := isTruth(b, means)
		got, e := order.Fits(b, api.OrderTruth{Means: means})
		if e != api.OK || got != want {
			t.Fatalf("%v, %v: %v, error %d, want %v", b, means, got, e, want)
		}
		answers[got]++
	}
	if answers[true] < 2000 || answers[false] < 2000 {
		t.Errorf("answers: %v", answers)
	}
}
