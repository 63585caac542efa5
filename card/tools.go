package card

import (
	"iter"
	"slices"

	"nacre/api"
)

// tooHeavy is the reason to give up if a tour has more loads than can be borne.
type tooHeavy struct{}

// misprint is the reason to give up if a text is none of a round.
type misprint struct{}

// attempt does something that may give up, and returns the error that this means.
func attempt(do func()) (e api.Errno) {
	defer func() {
		switch x := recover().(type) {
		case nil:
		case tooHeavy:
			e = api.ErrRule
		case misprint:
			e = api.ErrText
		default:
			// nothing else gives up here: to go on would hide a fault of the program
			panic(x)
		}
	}()
	do()
	return api.OK
}

// best returns the first one of some things that no other one comes before; false if there are none.
func best[T any](things iter.Seq[T], compare func(a, b T) int) (T, bool) {
	var first T
	found := false
	for x := range things {
		if !found || compare(x, first) < 0 {
			first, found = x, true
		}
	}
	return first, found
}

// areAll reports whether something is so of all elements of a list.
func areAll[T any](list []T, is func(T) bool) bool {
	return !slices.ContainsFunc(list, func(x T) bool { return !is(x) })
}

// sum returns the sum of some numbers.
func sum(numbers ...int) int {
	total := 0
	for _, n := range numbers {
		total += n
	}
	return total
}

// within reports whether a number is from low to high.
func within(n, low, high int) bool { return low <= n && n <= high }

// distance returns by how much two numbers differ.
func distance(m, n int) int { return max(m-n, n-m) }
