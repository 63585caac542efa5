package shell

import "nacre/api"

// contradiction is what bounds give up with when a cell has no thickness left.
type contradiction struct{}

// misprint is what a reader gives up with when a text is no sheet.
type misprint struct{}

// attempt does something that may give up, and returns the error that this means.
func attempt(do func()) (e api.Errno) {
	defer func() {
		switch x := recover().(type) {
		case nil:
		case contradiction:
			e = api.ErrRule
		case misprint:
			e = api.ErrText
		default:
			// nothing else gives up here: to go on would hide a fault of the program
			panic(x)
		}
	}()
	do()
	return api.OK
}

// best returns the first one of some things that no other one comes before.
func best[T any](compare func(a, b T) int, first T, others ...T) T {
	for _, x := range others {
		if compare(x, first) < 0 {
			first = x
		}
	}
	return first
}

// sum returns the sum of some worths.
func sum(worths ...int) int {
	total := 0
	for _, n := range worths {
		total += n
	}
	return total
}

// within reports whether a number is from low to high.
func within(n, low, high int) bool { return low <= n && n <= high }
