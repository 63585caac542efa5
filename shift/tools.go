package shift

import (
	"iter"
	"slices"

	"nacre/api"
)

// noPath is the reason to give up if a list is no path.
type noPath struct{}

// misprint is the reason to give up if a text is no sheet.
type misprint struct{}

// attempt does something that may give up, and returns the error that this means.
func attempt(do func()) (e api.Errno) {
	defer func() {
		switch x := recover().(type) {
		case nil:
		case noPath:
			e = api.ErrArg
		case misprint:
			e = api.ErrText
		default:
			// nothing else gives up here: to go on would hide a fault of the program
			panic(x)
		}
	}()
	do()
	return api.OK
}

// best returns the first one of some things that no other one comes before; the zero value if there are none.
func best[T any](things iter.Seq[T], compare func(a, b T) int) T {
	var first T
	found := false
	for x := range things {
		if !found || compare(x, first) < 0 {
			first, found = x, true
		}
	}
	return first
}

// areAll reports whether something is so of all elements of a list.
func areAll[T any](list []T, is func(T) bool) bool {
	return !slices.ContainsFunc(list, func(x T) bool { return !is(x) })
}

// count returns how often a room is in a path.
func count(path []int, room int) int {
	hours := 0
	for _, x := range path {
		if x == room {
			hours++
		}
	}
	return hours
}

// sum returns the sum of some numbers.
func sum(numbers ...int) int {
	total := 0
	for _, n := range numbers {
		total += n
	}
	return total
}

// has reports whether a room is in a set.
func has(set, room int) bool { return set>>room&1 == 1 }

// within reports whether a number is from low to high.
func within(n, low, high int) bool { return low <= n && n <= high }
