package mould

import (
	"iter"

	"nacre/api"
)

// inquiry is a book with a find of which it is asked who stamped it.
type inquiry struct {
	api.MouldBook
	find api.MouldFind
}

// Had returns the houses that can have had a mould at a strike.
func Had(b api.MouldBook, mould, strike int) ([]int, api.Errno) {
	if e := examine(b, isMouldOf(b, mould) && isStrike(strike)); e != api.OK {
		return nil, e
	}
	houses := 0
	m := b.Moulds[mould]
	for loan, l := range m.Loans {
		if lies(strike, struck(m, loan)) {
			houses |= 1 << l.House
		}
	}
	if houses == 0 {
		return nil, api.ErrNone
	}
	return members(houses), api.OK
}

// Could returns the moulds that can have stamped a find.
func Could(b api.MouldBook, f api.MouldFind) ([]int, api.Errno) {
	if e := examine(b, isFind(f)); e != api.OK {
		return nil, e
	}
	var moulds []int
	for mould := range len(b.Moulds) {
		for range (inquiry{b, f}).stamps(mould) {
			moulds = append(moulds, mould)
			break
		}
	}
	return moulds, api.OK
}

// Between returns the least and the greatest strike at which a mould can have stamped a find.
func Between(b api.MouldBook, f api.MouldFind, mould int) (api.Span, api.Errno) {
	if e := examine(b, isFind(f) && isMouldOf(b, mould)); e != api.OK {
		return api.Span{}, e
	}
	all := none()
	for strike := range (inquiry{b, f}).stamps(mould) {
		all = reaching(all, only(strike))
	}
	if isEmpty(all) {
		return api.Span{}, api.ErrNone
	}
	return all, api.OK
}

// Who returns the houses that can have stamped a find.
func Who(b api.MouldBook, f api.MouldFind) ([]int, api.Errno) {
	if e := examine(b, isFind(f)); e != api.OK {
		return nil, e
	}
	houses := 0
	for mould, m := range b.Moulds {
		for _, loan := range (inquiry{b, f}).stamps(mould) {
			houses |= 1 << m.Loans[loan].House
		}
	}
	return members(houses), api.OK
}

// Twice returns the moulds that can have stamped two finds, the first one before the second one.
func Twice(b api.MouldBook, first, second api.MouldFind) ([]int, api.Errno) {
	if e := examine(b, isFind(first) && isFind(second)); e != api.OK {
		return nil, e
	}
	var twice []int
search:
	for mould, m := range b.Moulds {
		old := inherited(b, mould)
		for early, late := range growing(m, reach(m, first.Day), reach(m, second.Day)) {
			for _, set := range old {
				if agrees(b, reading{first.Seen, early | set}) && agrees(b, reading{second.Seen, late | set}) {
					twice = append(twice, mould)
					continue search
				}
			}
		}
	}
	return twice, api.OK
}

// Proves returns from which strike on a mould has each of its marks, if a set of spots agrees.
func Proves(b api.MouldBook, mould, strike, seen int) ([]api.Span, api.Errno) {
	if e := examine(b, isMouldOf(b, mould) && isStrike(strike) && isSet(seen)); e != api.OK {
		return nil, e
	}
	m := b.Moulds[mould]
	old := inherited(b, mould)
	proved := make([]api.Span, len(m.Marks))
	for i := range proved {
		proved[i] = none()
	}
	possible := false
	for _, set := range own(m, only(strike)) {
		if !agreesAny(b, seen, joined([]int{set}, old)) {
			continue
		}
		possible = true
		for i, mark := range m.Marks {
			proved[i] = reaching(proved[i], came(mark, strike, set))
		}
	}
	if !possible {
		return nil, api.ErrNone
	}
	return proved, api.OK
}

// isFind reports whether a find is as defined.
func isFind(f api.MouldFind) bool { return isSet(f.Seen) && within(f.Day, 0, api.MouldDays) }

// stamps goes through the strikes at which a mould can have stamped the find, and the loans in which it can have done so.
func (q inquiry) stamps(mould int) iter.Seq2[int, int] {
	return func(yield func(strike, loan int) bool) {
		m := q.Moulds[mould]
		old := inherited(q.MouldBook, mould)
		for loan, day := range begins(m) {
			if day > q.find.Day {
				continue
			}
			strikes := struck(m, loan)
			for n := range strikes.High - strikes.Low + 1 {
				strike := strikes.Low + n
				can := joined(own(m, only(strike)), old)
				if agreesAny(q.MouldBook, q.find.Seen, can) && !yield(strike, loan) {
					return
				}
			}
		}
	}
}

// begins returns the least day on which each loan of a mould can have begun; it gives up if its days contradict each other.
// All loans can have begun so early in one and the same truth.
func begins(m api.MouldMould) []int {
	var days []int
	day := 0
	for _, l := range m.Loans {
		day = max(day, l.From.Low)
		if day > l.From.High {
			panic(contradiction{})
		}
		days = append(days, day)
	}
	return days
}

// struck returns between which ends the strikes lie that can be ones of a loan; each one between them can.
func struck(m api.MouldMould, loan int) api.Span {
	if m.Loans[loan].Strikes.High == 0 {
		return none()
	}
	var least, most []int
	for _, l := range m.Loans[:loan] {
		least = append(least, l.Strikes.Low)
		most = append(most, l.Strikes.High)
	}
	return api.Span{Low: sum(least...) + 1, High: sum(most...) + m.Loans[loan].Strikes.High}
}

// reach returns the greatest strike that can be one of a loan that began no later than a day.
// Each one before it is such a strike too if all loans are struck as often as they can be.
func reach(m api.MouldMould, day int) int {
	var most []int
	for loan, begun := range begins(m) {
		if begun <= day {
			most = append(most, m.Loans[loan].Strikes.High)
		}
	}
	return sum(most...)
}

// growing goes through the sets of spots that a mould can have, in one and the same truth, by its own marks at two strikes,
// the first one of which is less, and up to a number; the second one is up to another number.
func growing(m api.MouldMould, early, late int) iter.Seq2[int, int] {
	return func(yield func(before, after int) bool) {
		// there is no strike 0
		can := make([][]int, api.MouldStrikes+1)
		for n := range api.MouldStrikes {
			can[n+1] = own(m, only(n+1))
		}
		for second := range late + 1 {
			for first := range min(early+1, second) {
				for _, before := range can[first] {
					for _, after := range can[second] {
						// no mark is lost; all else that each set says of a mark leaves a strike for it to come
						if before&after == before && !yield(before, after) {
							return
						}
					}
				}
			}
		}
	}
}

// came returns between which ends the strike lies from which on a mould has a mark, if it has a set of spots at a strike.
func came(mark api.MouldMark, strike, set int) api.Span {
	if set>>mark.Spot&1 == 1 {
		return api.Span{Low: mark.First.Low, High: min(mark.First.High, strike)}
	}
	return api.Span{Low: max(mark.First.Low, strike+1), High: mark.First.High}
}
