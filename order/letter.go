package order

import (
	"cmp"
	"iter"
	"slices"

	"nacre/api"
)

// Reads returns the goods that each letter can mean.
func Reads(b api.OrderBook, x api.OrderBuyer) ([][]int, api.Errno) {
	if !isBook(b) || !isBuyerOf(b, x) {
		return nil, api.ErrArg
	}
	k := study(b)
	sets := make([]int, len(x.Letters))
	for edition := range k.Editions {
		for means := range k.readings(edition, x) {
			for i, l := range x.Letters {
				sets[i] |= 1 << means[l.Number]
			}
		}
	}
	if sets[0] == 0 {
		return nil, api.ErrRule
	}
	var reads [][]int
	for _, set := range sets {
		reads = append(reads, k.numbered(func(good int) bool { return has(set, good) }))
	}
	return reads, api.OK
}

// Which returns the editions that a buyer can have.
func Which(b api.OrderBook, x api.OrderBuyer) ([]int, api.Errno) {
	if !isBook(b) || !isBuyerOf(b, x) {
		return nil, api.ErrArg
	}
	k := study(b)
	var which []int
editions:
	for edition := range k.Editions {
		for _, s := range k.can[edition] {
			if has(x.Editions, edition) && k.areTrue(x.Letters, s.means) {
				which = append(which, edition)
				continue editions
			}
		}
	}
	if len(which) == 0 {
		return nil, api.ErrRule
	}
	return which, api.OK
}

// Odd returns the letters that are odd.
func Odd(b api.OrderBook, x api.OrderBuyer) ([]int, api.Errno) {
	if !isBook(b) || !isBuyerOf(b, x) {
		return nil, api.ErrArg
	}
	k := study(b)
	odd, found := best(k.untrue(x), func(a, b []int) int {
		return cmp.Or(cmp.Compare(len(a), len(b)), slices.Compare(a, b))
	})
	if !found {
		return nil, api.ErrRule
	}
	return odd, api.OK
}

// Wants returns the least and the greatest number of pieces that are wanted of each of the goods.
func Wants(b api.OrderBook, x api.OrderBuyer) ([]api.Span, api.Errno) {
	if !isBook(b) || !isBuyerOf(b, x) {
		return nil, api.ErrArg
	}
	k := study(b)
	var wants []api.Span
	for edition := range k.Editions {
		for means := range k.readings(edition, x) {
			wants = reaching(wants, k.wanted(means, x))
		}
	}
	if len(wants) == 0 {
		return nil, api.ErrRule
	}
	return wants, api.OK
}

// isBuyerOf reports whether a buyer is as defined, with a book.
func isBuyerOf(b api.OrderBook, x api.OrderBuyer) bool {
	if !within(x.Editions, 1, 1<<b.Editions-1) || !within(len(x.Letters), 1, api.OrderLetters) {
		return false
	}
	return areAll(x.Letters, func(l api.OrderLetter) bool {
		return isGoodOf(b, l.Number) && within(l.Lines.Low, 1, api.OrderLine) &&
			within(l.Lines.High, l.Lines.Low, api.OrderLine) && within(l.Many, 0, api.OrderMany)
	})
}

// isTrue reports whether a letter is true if numbers mean so.
func (k known) isTrue(l api.OrderLetter, means []int) bool {
	return within(k.Goods[means[l.Number]].Line, l.Lines.Low, l.Lines.High)
}

// areTrue reports whether letters are true if numbers mean so.
func (k known) areTrue(l []api.OrderLetter, means []int) bool {
	return areAll(l, func(x api.OrderLetter) bool { return k.isTrue(x, means) })
}

// readings goes through what the numbers of an edition can mean if a buyer has it, and all letters are true.
func (k known) readings(edition int, x api.OrderBuyer) iter.Seq[[]int] {
	return func(yield func([]int) bool) {
		if !has(x.Editions, edition) {
			return
		}
		for _, s := range k.can[edition] {
			if k.areTrue(x.Letters, s.means) && !yield(s.means) {
				return
			}
		}
	}
}

// untrue goes through the lists of letters that are not true, for all that the numbers of a buyer's editions can mean.
func (k known) untrue(x api.OrderBuyer) iter.Seq[[]int] {
	return func(yield func([]int) bool) {
		for edition := range k.Editions {
			if !has(x.Editions, edition) {
				continue
			}
			for _, s := range k.can[edition] {
				var list []int
				for i, l := range x.Letters {
					if !k.isTrue(l, s.means) {
						list = append(list, i)
					}
				}
				if !yield(list) {
					return
				}
			}
		}
	}
}

// wanted returns how many pieces are wanted of each of the goods if numbers mean so.
func (k known) wanted(means []int, x api.OrderBuyer) []int {
	wanted := make([]int, len(k.Goods))
	for _, l := range x.Letters {
		wanted[means[l.Number]] += l.Many
	}
	return wanted
}

// reaching returns the least spans in which those of a list lie, and a number each; if there are no spans yet, the numbers alone.
func reaching(spans []api.Span, numbers []int) []api.Span {
	for i, n := range numbers {
		if i == len(spans) {
			spans = append(spans, api.Span{Low: n, High: n})
		}
		spans[i] = api.Span{Low: min(spans[i].Low, n), High: max(spans[i].High, n)}
	}
	return spans
}
