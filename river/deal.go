package river

import (
	"cmp"
	"iter"
	"slices"

	"nacre/api"
)

// market is the licences and the takes of a book.
type market struct {
	api.RiverBook
	licences []api.RiverLicence
	takes    []api.RiverTake
}

// Deals reports whether a list is a deal, and its rest.
func Deals(b api.RiverBook, l []api.RiverLicence, takes []api.RiverTake, deal []int) (bool, int, api.Errno) {
	m := market{b, l, takes}
	if !m.isDefined() || !m.isList(deal) {
		return false, 0, api.ErrArg
	}
	if !m.isDeal(deal) {
		return false, 0, api.OK
	}
	return true, m.rest(deal), api.OK
}

// Deal returns the best deal, and its rest.
func Deal(b api.RiverBook, l []api.RiverLicence, takes []api.RiverTake) ([]int, int, api.Errno) {
	m := market{b, l, takes}
	if !m.isDefined() {
		return nil, 0, api.ErrArg
	}
	deal := best(m.deals(), func(a, b []int) int { return cmp.Compare(m.rest(a), m.rest(b)) })
	return deal, m.rest(deal), api.OK
}

// isDefined reports whether the book, the licences and the takes are as defined.
func (m market) isDefined() bool {
	if !isBook(m.RiverBook) || len(m.licences) > api.RiverLicences || len(m.takes) > api.RiverTakes {
		return false
	}
	return areAll(m.licences, m.isLicence) && areAll(m.takes, m.isTake)
}

func (m market) isLicence(l api.RiverLicence) bool {
	return isRiverOf(m.RiverBook, l.River) && isSpan(api.Span{Low: l.First, High: l.Last}, 0, m.Years-1) && within(l.Quota, 0, api.RiverQuota)
}

func (m market) isTake(t api.RiverTake) bool {
	return isRiverOf(m.RiverBook, t.River) && isSpan(t.Year, 0, m.Years-1) && within(t.Many, 0, api.RiverQuota)
}

// isList reports whether a list has a licence or -1 for each take.
func (m market) isList(deal []int) bool {
	return len(deal) == len(m.takes) && areAll(deal, func(n int) bool { return within(n, -1, len(m.licences)-1) })
}

// isDeal reports whether a list is a deal of as many of the first takes as it is long.
func (m market) isDeal(deal []int) bool {
	var used [api.RiverLicences]int
	for i, n := range deal {
		if n < 0 {
			continue
		}
		used[n] += m.takes[i].Many
		if used[n] > m.licences[n].Quota || !m.isGood(m.licences[n], m.takes[i]) {
			return false
		}
	}
	return true
}

// isGood reports whether a licence is good for a take.
func (m market) isGood(l api.RiverLicence, t api.RiverTake) bool {
	if l.River != t.River {
		return false
	}
	for year := range m.Years {
		if lies(year, t.Year) && (!within(year, l.First, l.Last) || has(m.Rivers[t.River].Closed, year)) {
			return false
		}
	}
	return true
}

// rest returns the rest of a deal.
func (m market) rest(deal []int) int {
	rest := 0
	for i, n := range deal {
		if n < 0 {
			rest += m.takes[i].Many
		}
	}
	return rest
}

// deals goes through all deals, in lexicographic order.
func (m market) deals() iter.Seq[[]int] {
	return func(yield func([]int) bool) {
		var give func(deal []int) bool
		give = func(deal []int) bool {
			if len(deal) == len(m.takes) {
				return yield(deal)
			}
			for n := -1; n < len(m.licences); n++ {
				longer := append(slices.Clone(deal), n)
				// no list that is longer is a deal if this one is none
				if m.isDeal(longer) && !give(longer) {
					return false
				}
			}
			return true
		}
		give(nil)
	}
}
