package card

import "nacre/api"

// Due returns between which bounds lies what each house is paid.
func Due(r api.CardRound, rate int, kept []int) ([]api.Span, api.Errno) {
	if !isRound(r) || !isRate(rate) || len(kept) != len(r.Houses) || !areAll(kept, isKept) {
		return nil, api.ErrArg
	}
	known, e := Known(r)
	if e != api.OK {
		return nil, e
	}
	var due []api.Span
	for house, s := range known {
		// for more buttons never less is paid: so the ends of the buttons give the ends of the pay
		low, _ := settle(rate, kept[house]+s.Low)
		high, _ := settle(rate, kept[house]+s.High)
		due = append(due, api.Span{Low: low, High: high})
	}
	return due, api.OK
}

// Pay returns what a house is paid in each round, and what is kept in the end.
func Pay(rate, kept int, l []int) ([]int, int, api.Errno) {
	if !isRate(rate) || !isKept(kept) || len(l) > api.CardRounds || !areAll(l, isBrought) {
		return nil, 0, api.ErrArg
	}
	var paid []int
	for _, buttons := range l {
		coins, left := settle(rate, kept+buttons)
		paid = append(paid, coins)
		kept = left
	}
	return paid, kept, api.OK
}

// settle returns what is paid for the grosses of some buttons, and how many buttons remain.
func settle(rate, buttons int) (paid, left int) {
	return buttons / api.CardGross * rate, buttons % api.CardGross
}

func isRate(n int) bool { return within(n, 0, api.CardRate) }

func isKept(n int) bool { return within(n, 0, api.CardGross-1) }

// isBrought reports whether a house can bring so many buttons in a round.
func isBrought(n int) bool { return within(n, 0, api.CardOut) }
