package mould

import (
	"cmp"
	"iter"
	"math/bits"
	"slices"

	"nacre/api"
)

// clue is a set of spots by which a mould is looked for.
type clue struct {
	mould, set int
}

// leads is the sets of houses to which clues lead.
type leads map[clue]int

// Confused returns the least set of spots by which two moulds can be confused.
func Confused(b api.MouldBook, one, other int) (int, api.Errno) {
	if e := examine(b, isMouldOf(b, one) && isMouldOf(b, other) && one != other); e != api.OK {
		return 0, e
	}
	l := follow(b)
	for set := range sets {
		// a strike of a loan always leads to the loan's house
		if l[clue{one, set}] != 0 && l[clue{other, set}] != 0 {
			return set, api.OK
		}
	}
	return 0, api.ErrNone
}

// Clear reports whether all moulds but those of a list are clear.
func Clear(b api.MouldBook, gone []int) (bool, api.Errno) {
	if e := examine(b, areIncreasing(b, gone)); e != api.OK {
		return false, e
	}
	return follow(b).areClear(others(b, gone)), api.OK
}

// Withdraw returns the best withdrawal.
func Withdraw(b api.MouldBook) ([]int, api.Errno) {
	if e := examine(b, true); e != api.OK {
		return nil, e
	}
	return best(withdrawals(b), func(a, b []int) int { return cmp.Compare(len(a), len(b)) }), api.OK
}

// areIncreasing reports whether numbers are moulds of a book, in increasing order.
func areIncreasing(b api.MouldBook, moulds []int) bool {
	for i, mould := range moulds {
		if !isMouldOf(b, mould) || i > 0 && mould <= moulds[i-1] {
			return false
		}
	}
	return true
}

// follow returns to which houses all sets of spots lead.
func follow(b api.MouldBook) leads {
	l := leads{}
	for mould, m := range b.Moulds {
		old := inherited(b, mould)
		for loan, to := range m.Loans {
			can := joined(own(m, struck(m, loan)), old)
			for set := range sets {
				if agreesAny(b, set, can) {
					l[clue{mould, set}] |= 1 << to.House
				}
			}
		}
	}
	return l
}

// areClear reports whether each set of spots leads to at most one house, by some moulds alone.
func (l leads) areClear(moulds []int) bool {
	for set := range sets {
		houses := 0
		for _, mould := range moulds {
			houses |= l[clue{mould, set}]
		}
		if bits.OnesCount(uint(houses)) > 1 {
			return false
		}
	}
	return true
}

// others returns the moulds of a book that are not gone.
func others(b api.MouldBook, gone []int) []int {
	var left []int
	for mould := range len(b.Moulds) {
		if !slices.Contains(gone, mould) {
			left = append(left, mould)
		}
	}
	return left
}

// withdrawals goes through the lists of moulds without which all others are clear, in lexicographic order.
func withdrawals(b api.MouldBook) iter.Seq[[]int] {
	return func(yield func([]int) bool) {
		l := follow(b)
		var withdraw func(gone []int, next int) bool
		withdraw = func(gone []int, next int) bool {
			if l.areClear(others(b, gone)) && !yield(gone) {
				return false
			}
			for mould := next; mould < len(b.Moulds); mould++ {
				if !withdraw(append(slices.Clone(gone), mould), mould+1) {
					return false
				}
			}
			return true
		}
		withdraw(nil, 0)
	}
}
