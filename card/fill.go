package card

import (
	"cmp"
	"iter"
	"slices"

	"nacre/api"
)

// Fill returns the best filling of an order, and how many cards it takes.
func Fill(kinds []api.CardKind, buttons int) ([]int, int, api.Errno) {
	if !within(len(kinds), 1, api.CardKinds) || !areAll(kinds, isKind) || !within(buttons, 0, api.CardOrder) {
		return nil, 0, api.ErrArg
	}
	taken, ok := best(fillings(kinds, buttons), func(a, b []int) int {
		return cmp.Compare(sum(a...), sum(b...))
	})
	if !ok {
		return nil, 0, api.ErrNone
	}
	return taken, sum(taken...), api.OK
}

// isKind reports whether a kind is as defined.
func isKind(k api.CardKind) bool {
	return within(k.Holds, 1, api.CardPer) && within(k.Many, 0, api.CardMany)
}

// fillings goes through all fillings of an order, in lexicographic order.
func fillings(kinds []api.CardKind, buttons int) iter.Seq[[]int] {
	return func(yield func([]int) bool) {
		taken := make([]int, len(kinds))
		var take func(kind, left int) bool
		take = func(kind, left int) bool {
			if kind == len(kinds) {
				return left > 0 || yield(slices.Clone(taken))
			}
			k := kinds[kind]
			for n := range min(k.Many, left/k.Holds) + 1 {
				taken[kind] = n
				if !take(kind+1, left-n*k.Holds) {
					return false
				}
			}
			return true
		}
		take(0, buttons)
	}
}
