package drill

import (
	"iter"

	"nacre/api"
)

// reason is what something gives up with.
type reason interface {
	errno() api.Errno
}

// impossible is the reason if a machine is not possible.
type impossible struct{}

func (impossible) errno() api.Errno { return api.ErrRule }

// misprint is the reason if a text is none of a machine.
type misprint struct{}

func (misprint) errno() api.Errno { return api.ErrText }

// attempt does something that may give up, and returns the error of the reason.
func attempt(do func()) (e api.Errno) {
	defer func() {
		x := recover()
		if why, ok := x.(reason); ok {
			e = why.errno()
		} else if x != nil {
			// nothing else gives up here: to go on would hide a fault of the program
			panic(x)
		}
	}()
	do()
	return api.OK
}

// best returns the first one of some things that no other one comes before; false if there are none.
func best[T any](things iter.Seq[T], compare func(a, b T) int) (T, bool) {
	var first T
	found := false
	for x := range things {
		if !found || compare(x, first) < 0 {
			first, found = x, true
		}
	}
	return first, found
}

// narrow returns what lies in all of some spans; false if nothing does.
func narrow(spans ...api.Span) (api.Span, bool) {
	all := spans[0]
	for _, s := range spans[1:] {
		all.Low, all.High = max(all.Low, s.Low), min(all.High, s.High)
	}
	return all, all.Low <= all.High
}

// possible returns a span in which something lies; it gives up if nothing does.
func possible(s api.Span, some bool) api.Span {
	if !some {
		panic(impossible{})
	}
	return s
}

// around returns the span of what differs from a number by at most as much as that.
func around(n, by int) api.Span { return api.Span{Low: n - by, High: n + by} }

// lies reports whether a number lies in a span.
func lies(n int, s api.Span) bool { return within(n, s.Low, s.High) }

// within reports whether a number is from low to high.
func within(n, low, high int) bool { return low <= n && n <= high }
