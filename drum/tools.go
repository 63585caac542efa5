package drum

import (
	"iter"

	"nacre/api"
)

// contradiction is the reason to give up if an acid can have no strength in some hour.
type contradiction struct{}

// misprint is the reason to give up if a text is no slip.
type misprint struct{}

// attempt does something that may give up, and returns the error that this means.
func attempt(do func()) (e api.Errno) {
	defer func() {
		switch x := recover().(type) {
		case nil:
		case contradiction:
			e = api.ErrRule
		case misprint:
			e = api.ErrText
		default:
			// nothing else gives up here: to go on would hide a fault of the program
			panic(x)
		}
	}()
	do()
	return api.OK
}

// best returns the first one of some things that no other one comes before; the zero value if there are none.
func best[T any](things iter.Seq[T], compare func(a, b T) int) T {
	var first T
	found := false
	for x := range things {
		if !found || compare(x, first) < 0 {
			first, found = x, true
		}
	}
	return first
}

// common returns what two spans have in common; its end is less than its beginning if that is nothing.
func common(a, b api.Span) api.Span {
	return api.Span{Low: max(a.Low, b.Low), High: min(a.High, b.High)}
}

// around returns the span of what differs from a number by at most as much as that.
func around(n, by int) api.Span { return api.Span{Low: n - by, High: n + by} }

// moved returns a span of which both ends are greater by a number.
func moved(s api.Span, by int) api.Span { return api.Span{Low: s.Low + by, High: s.High + by} }

// reaching returns a span that reaches to a number too.
func reaching(s api.Span, n int) api.Span {
	return api.Span{Low: min(s.Low, n), High: max(s.High, n)}
}

// isEmpty reports whether nothing lies in a span.
func isEmpty(s api.Span) bool { return s.Low > s.High }

// lies reports whether a number lies in a span.
func lies(n int, s api.Span) bool { return within(n, s.Low, s.High) }

// within reports whether a number is from low to high.
func within(n, low, high int) bool { return low <= n && n <= high }
