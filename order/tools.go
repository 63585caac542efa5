package order

import (
	"iter"
	"slices"

	"nacre/api"
)

// refusal is the reason to give up if a list is no purchase.
type refusal struct{}

// misprint is the reason to give up if a text is none of a book.
type misprint struct{}

// attempt does something that may give up, and returns the error that this means.
func attempt(do func()) (e api.Errno) {
	defer func() {
		switch x := recover().(type) {
		case nil:
		case refusal:
			e = api.ErrArg
		case misprint:
			e = api.ErrText
		default:
			// nothing else gives up here: to go on would hide a fault of the program
			panic(x)
		}
	}()
	do()
	return api.OK
}

// best returns the first one of some things that no other one comes before; false if there are none.
func best[T any](things iter.Seq[T], compare func(a, b T) int) (T, bool) {
	var first T
	found := false
	for x := range things {
		if !found || compare(x, first) < 0 {
			first, found = x, true
		}
	}
	return first, found
}

// areAll reports whether something is so of all elements of a list.
func areAll[T any](list []T, is func(T) bool) bool {
	return !slices.ContainsFunc(list, func(x T) bool { return !is(x) })
}

// total returns the sum of some numbers.
func total(numbers ...int) int {
	sum := 0
	for _, n := range numbers {
		sum += n
	}
	return sum
}

// within reports whether a number is from low to high.
func within(n, low, high int) bool { return low <= n && n <= high }

// has reports whether a set, a number of which the bit n stands for n, has some number.
func has(set, n int) bool { return set>>n&1 == 1 }
