package dye

import (
	"iter"

	"nacre/api"
)

// impossible is the reason to give up if trays cannot be.
type impossible struct{}

// misprint is the reason to give up if a text is none of a house.
type misprint struct{}

// attempt does something that may give up, and returns the error that this means.
func attempt(do func()) (e api.Errno) {
	defer func() {
		switch x := recover().(type) {
		case nil:
		case impossible:
			e = api.ErrRule
		case misprint:
			e = api.ErrText
		default:
			// nothing else gives up here: to go on would hide a fault of the program
			panic(x)
		}
	}()
	do()
	return api.OK
}

// best returns the first one of some things that no other one comes before; false if there are none.
func best[T any](things iter.Seq[T], compare func(a, b T) int) (T, bool) {
	var first T
	found := false
	for x := range things {
		if !found || compare(x, first) < 0 {
			first, found = x, true
		}
	}
	return first, found
}

// lists goes through all lists with a number of each span, in lexicographic order.
// The list is the same memory each time.
func lists(spans []api.Span) iter.Seq[[]int] {
	return func(yield func([]int) bool) {
		var list []int
		var extend func() bool
		extend = func() bool {
			place := len(list)
			if place == len(spans) {
				return yield(list)
			}
			for n := spans[place].Low; n <= spans[place].High; n++ {
				list = append(list, n)
				more := extend()
				list = list[:place]
				if !more {
					return false
				}
			}
			return true
		}
		extend()
	}
}

// wordFor returns the word for what is so in some truths, or in all of them.
func wordFor(some, all bool) api.DyeWord {
	switch {
	case all:
		return api.DyeSurely
	case some:
		return api.DyeMay
	}
	return api.DyeNever
}

// sum returns the sum of some numbers.
func sum(numbers ...int) int {
	total := 0
	for _, n := range numbers {
		total += n
	}
	return total
}

// lows returns the least number of each span.
func lows(spans []api.Span) []int {
	var found []int
	for _, s := range spans {
		found = append(found, s.Low)
	}
	return found
}

// highs returns the greatest number of each span.
func highs(spans []api.Span) []int {
	var found []int
	for _, s := range spans {
		found = append(found, s.High)
	}
	return found
}

// isSpan reports whether a span is one of numbers from low to high, and at most so wide.
func isSpan(s api.Span, low, high, wide int) bool {
	return within(s.Low, low, high) && within(s.High, s.Low, high) && s.High-s.Low <= wide
}

// only returns the span of one number.
func only(n int) api.Span { return api.Span{Low: n, High: n} }

// reaching returns a span that reaches to a number too.
func reaching(s api.Span, n int) api.Span {
	return api.Span{Low: min(s.Low, n), High: max(s.High, n)}
}

// lie reports whether each number lies in its span.
func lie(numbers []int, spans []api.Span) bool {
	for i, s := range spans {
		if !lies(numbers[i], s) {
			return false
		}
	}
	return true
}

// lies reports whether a number lies in a span.
func lies(n int, s api.Span) bool { return within(n, s.Low, s.High) }

// within reports whether a number is from low to high.
func within(n, low, high int) bool { return low <= n && n <= high }

// distance returns by how much two numbers differ.
func distance(m, n int) int { return max(m-n, n-m) }
