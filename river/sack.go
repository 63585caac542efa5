package river

import (
	"iter"
	"math/bits"

	"nacre/api"
)

// basket is a sack with the book of the rivers that its shells can be from.
type basket struct {
	api.RiverBook
	api.RiverSack
}

// Fits reports whether something is a truth of a sack.
func Fits(b api.RiverBook, s api.RiverSack, x api.RiverTruth) (bool, api.Errno) {
	k := basket{b, s}
	if !k.isDefined() || !k.isFull(x) {
		return false, api.ErrArg
	}
	return k.isTruth(x), api.OK
}

// Possible reports whether a sack is possible.
func Possible(b api.RiverBook, s api.RiverSack) (bool, api.Errno) {
	k := basket{b, s}
	if !k.isDefined() {
		return false, api.ErrArg
	}
	for range k.truths() {
		return true, api.OK
	}
	return false, api.OK
}

// Origins returns the origins of a shell, over all truths of a sack.
func Origins(b api.RiverBook, s api.RiverSack, shell int) ([]api.RiverOrigin, api.Errno) {
	k := basket{b, s}
	if !k.isDefined() || !within(shell, 0, len(s.Shells)-1) {
		return nil, api.ErrArg
	}
	met := map[api.RiverOrigin]bool{}
	for from := range k.truths() {
		met[from[shell]] = true
	}
	if len(met) == 0 {
		return nil, api.ErrRule
	}
	var can []api.RiverOrigin
	for o := range origins(b) {
		if met[o] {
			can = append(can, o)
		}
	}
	return can, api.OK
}

// Weather returns between which bounds the weather lies, over all truths of a sack.
func Weather(b api.RiverBook, s api.RiverSack) ([][]api.Span, api.Errno) {
	k := basket{b, s}
	if !k.isDefined() {
		return nil, api.ErrArg
	}
	var all weather
	possible := false
	for _, w := range k.truths() {
		if possible {
			w = w.reaching(all)
		}
		all, possible = w, true
	}
	if !possible {
		return nil, api.ErrRule
	}
	return all.of(b), api.OK
}

// Closed returns between which bounds lies how many shells of a sack are of closed years.
func Closed(b api.RiverBook, s api.RiverSack) (api.Span, api.Errno) {
	k := basket{b, s}
	if !k.isDefined() {
		return api.Span{}, api.ErrArg
	}
	m := k.mixes()
	if m == 0 {
		return api.Span{}, api.ErrRule
	}
	all := api.Span{Low: api.RiverShells}
	for mix := range m.each() {
		all = reaching(all, only(bits.OnesCount(uint(mix))))
	}
	return all, api.OK
}

// isDefined reports whether the book and the sack are as defined.
func (k basket) isDefined() bool {
	if !isBook(k.RiverBook) || !within(len(k.Shells), 1, api.RiverShells) || len(k.Tests) > api.RiverTests {
		return false
	}
	return areAll(k.Shells, isShell) && areAll(k.Tests, func(t api.RiverTest) bool { return within(t.Shell, 0, len(k.Shells)-1) })
}

// isFull reports whether something has a number for each river and each year, and an origin for each shell.
func (k basket) isFull(x api.RiverTruth) bool {
	if len(x.Weather) != len(k.Rivers) || len(x.Origins) != len(k.Shells) {
		return false
	}
	return areAll(x.Weather, func(years []int) bool { return len(years) == k.Years })
}

// isTruth reports whether something that is full is a truth.
func (k basket) isTruth(x api.RiverTruth) bool {
	w := expected(k.RiverBook)
	for river, years := range x.Weather {
		for year, n := range years {
			if !lies(n, w[river][year]) {
				return false
			}
			w[river][year] = only(n)
		}
	}
	for shell, o := range x.Origins {
		if _, agrees := w.after(k.RiverBook, k.Shells[shell], o); !agrees || !k.allows(shell, o) {
			return false
		}
	}
	return true
}

// allows reports whether all tests of a shell say what is so of an origin of the book.
func (k basket) allows(shell int, o api.RiverOrigin) bool {
	return areAll(k.Tests, func(t api.RiverTest) bool { return t.Shell != shell || t.Closed == isClosed(k.RiverBook, o) })
}

// candidates returns, for each shell, the origins of which it can be by itself, and by its tests.
func (k basket) candidates() [][]api.RiverOrigin {
	var all [][]api.RiverOrigin
	for shell, s := range k.Shells {
		var can []api.RiverOrigin
		for _, o := range alone(k.RiverBook, s) {
			if k.allows(shell, o) {
				can = append(can, o)
			}
		}
		all = append(all, can)
	}
	return all
}

// truths goes through the origins that all shells have in some truth, with the weather of all truths that have these.
// The list of origins changes after each step.
func (k basket) truths() iter.Seq2[[]api.RiverOrigin, weather] {
	return func(yield func([]api.RiverOrigin, weather) bool) {
		candidates := k.candidates()
		from := make([]api.RiverOrigin, len(k.Shells))
		var place func(shell int, w weather) bool
		place = func(shell int, w weather) bool {
			if shell == len(from) {
				return yield(from, w)
			}
			for _, o := range candidates[shell] {
				left, agrees := w.after(k.RiverBook, k.Shells[shell], o)
				if !agrees {
					continue
				}
				from[shell] = o
				if !place(shell+1, left) {
					return false
				}
			}
			return true
		}
		place(0, expected(k.RiverBook))
	}
}
