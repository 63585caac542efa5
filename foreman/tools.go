package foreman

import (
	"iter"

	"nacre/api"
)

// refusal is the reason to give up, with its error, if an entry does not go, or a question has no answer.
type refusal struct {
	e api.Errno
}

// misprint is the reason to give up if a line is none.
type misprint struct{}

// attempt does something that may give up, and returns the error that this means.
func attempt(do func()) (e api.Errno) {
	defer func() {
		switch x := recover().(type) {
		case nil:
		case refusal:
			e = x.e
		case misprint:
			e = api.ErrText
		default:
			// nothing else gives up here: to go on would hide a fault of the program
			panic(x)
		}
	}()
	do()
	return api.OK
}

// demand gives up with an error unless something is so.
func demand(is bool, e api.Errno) {
	if !is {
		panic(refusal{e})
	}
}

// last returns the last one of some things; false if there are none.
func last[T any](things iter.Seq[T]) (T, bool) {
	var end T
	found := false
	for x := range things {
		end, found = x, true
	}
	return end, found
}

// within reports whether a number is from low to high.
func within(n, low, high int) bool { return low <= n && n <= high }
