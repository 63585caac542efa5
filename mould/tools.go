package mould

import (
	"iter"
	"slices"

	"nacre/api"
)

// contradiction is the reason to give up if loans of a mould can begin on no days in their order.
type contradiction struct{}

// misprint is the reason to give up if a text is none of a book.
type misprint struct{}

// attempt does something that may give up, and returns the error that this means.
func attempt(do func()) (e api.Errno) {
	defer func() {
		switch x := recover().(type) {
		case nil:
		case contradiction:
			e = api.ErrRule
		case misprint:
			e = api.ErrText
		default:
			// nothing else gives up here: to go on would hide a fault of the program
			panic(x)
		}
	}()
	do()
	return api.OK
}

// best returns the first one of some things that no other one comes before; the zero value if there are none.
func best[T any](things iter.Seq[T], compare func(a, b T) int) T {
	var first T
	found := false
	for x := range things {
		if !found || compare(x, first) < 0 {
			first, found = x, true
		}
	}
	return first
}

// areAll reports whether something is so of all elements of a list.
func areAll[T any](list []T, is func(T) bool) bool {
	return !slices.ContainsFunc(list, func(x T) bool { return !is(x) })
}

// members returns the numbers of a set that is the sum of 2 to the power of each of them, in increasing order.
func members(set int) []int {
	var all []int
	for n := 0; set>>n > 0; n++ {
		if set>>n&1 == 1 {
			all = append(all, n)
		}
	}
	return all
}

// sum returns the sum of some numbers.
func sum(numbers ...int) int {
	total := 0
	for _, n := range numbers {
		total += n
	}
	return total
}

// only returns the span of one number.
func only(n int) api.Span { return api.Span{Low: n, High: n} }

// none returns a span in which nothing lies, such that it reaches to another span alone once it does.
func none() api.Span { return api.Span{Low: api.MouldStrikes + 1} }

// isEmpty reports whether nothing lies in a span.
func isEmpty(s api.Span) bool { return s.Low > s.High }

// reaching returns the least span in which all of two spans lies.
func reaching(a, b api.Span) api.Span {
	return api.Span{Low: min(a.Low, b.Low), High: max(a.High, b.High)}
}

// isSpan reports whether a span is one from low to high.
func isSpan(s api.Span, low, high int) bool {
	return within(s.Low, low, high) && within(s.High, s.Low, high)
}

// lies reports whether a number lies in a span.
func lies(n int, s api.Span) bool { return within(n, s.Low, s.High) }

// within reports whether a number is from low to high.
func within(n, low, high int) bool { return low <= n && n <= high }
