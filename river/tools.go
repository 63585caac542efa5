package river

import (
	"iter"
	"slices"

	"nacre/api"
)

// contradiction is the reason to give up if rings can be of no weather.
type contradiction struct{}

// misprint is the reason to give up if a text is none of a book.
type misprint struct{}

// attempt does something that may give up, and returns the error that this means.
func attempt(do func()) (e api.Errno) {
	defer func() {
		switch x := recover().(type) {
		case nil:
		case contradiction:
			e = api.ErrRule
		case misprint:
			e = api.ErrText
		default:
			// nothing else gives up here: to go on would hide a fault of the program
			panic(x)
		}
	}()
	do()
	return api.OK
}

// knowledge is what is known of whether something is so, by all that was met of it: unmet, sure or unsure.
type knowledge interface {
	// after returns what is known when it was met once more, so or not so.
	after(is bool) knowledge
}

// unmet is known as long as nothing was met.
type unmet struct{}

// sure is known if it was always so, or never.
type sure struct {
	is bool
}

// unsure is known if it was so, and was not.
type unsure struct{}

func (unmet) after(is bool) knowledge { return sure{is} }

func (s sure) after(is bool) knowledge {
	if is != s.is {
		return unsure{}
	}
	return s
}

func (u unsure) after(bool) knowledge { return u }

// best returns the first one of some things that no other one comes before; the zero value if there are none.
func best[T any](things iter.Seq[T], compare func(a, b T) int) T {
	var first T
	found := false
	for x := range things {
		if !found || compare(x, first) < 0 {
			first, found = x, true
		}
	}
	return first
}

// areAll reports whether something is so of all elements of a list.
func areAll[T any](list []T, is func(T) bool) bool {
	return !slices.ContainsFunc(list, func(x T) bool { return !is(x) })
}

// narrowed returns the span of what lies in a span, and in each of some more; it gives up if nothing does.
func narrowed(s api.Span, more ...api.Span) api.Span {
	for _, other := range more {
		s = api.Span{Low: max(s.Low, other.Low), High: min(s.High, other.High)}
	}
	if s.Low > s.High {
		panic(contradiction{})
	}
	return s
}

// reaching returns the least span in which all of two spans lies.
func reaching(a, b api.Span) api.Span {
	return api.Span{Low: min(a.Low, b.Low), High: max(a.High, b.High)}
}

// only returns the span of one number.
func only(n int) api.Span { return api.Span{Low: n, High: n} }

// isSpan reports whether a span is one from low to high.
func isSpan(s api.Span, low, high int) bool {
	return within(s.Low, low, high) && within(s.High, s.Low, high)
}

// lies reports whether a number lies in a span.
func lies(n int, s api.Span) bool { return within(n, s.Low, s.High) }

// within reports whether a number is from low to high.
func within(n, low, high int) bool { return low <= n && n <= high }

// has reports whether a set, a number of which the bit n stands for n, has some number.
func has(set, n int) bool { return set>>n&1 == 1 }
