package dye

import (
	"cmp"
	"iter"
	"math/bits"
	"slices"

	"nacre/api"
)

// choice is stocks for a coat: which of them look like the old buttons, and which look like each other.
type choice struct {
	need   int
	stocks []api.DyeStock
	old    []bool
	alike  [][]bool
}

// Suits reports whether a set of stocks suits a coat.
func Suits(h api.DyeHouse, c api.DyeCoat, l []api.DyeStock, set int) (bool, api.Errno) {
	if !isHouse(h) || !isCoat(h, c) || !areForCoats(h, l) || !within(set, 0, 1<<len(l)-1) {
		return false, api.ErrArg
	}
	return choose(h, c, l).suits(set), api.OK
}

// Coat returns the best set of stocks for a coat.
func Coat(h api.DyeHouse, c api.DyeCoat, l []api.DyeStock) (int, api.Errno) {
	if !isHouse(h) || !isCoat(h, c) || !areForCoats(h, l) {
		return 0, api.ErrArg
	}
	x := choose(h, c, l)
	set, ok := best(x.sets(), x.compare)
	if !ok {
		return 0, api.ErrNone
	}
	return set, api.OK
}

// isCoat reports whether a coat is as defined.
func isCoat(h api.DyeHouse, c api.DyeCoat) bool {
	return areLamps(h, c.Lamps) && isEye(c.Eye) && within(c.Need, 1, api.DyeNeed) && len(c.Old) == len(c.Lamps) && !slices.ContainsFunc(c.Old, func(s api.Span) bool {
		return !areLooks(s)
	})
}

// areForCoats reports whether stocks are as defined, and there are some.
func areForCoats(h api.DyeHouse, l []api.DyeStock) bool { return len(l) > 0 && areStocks(h, l) }

// areStocks reports whether stocks are as defined.
func areStocks(h api.DyeHouse, l []api.DyeStock) bool {
	return len(l) <= api.DyeStocks && !slices.ContainsFunc(l, func(s api.DyeStock) bool {
		return !isBatch(h, s.Baths) || !within(s.Many, 0, api.DyeMany) || !within(s.Price, 0, api.DyePrice)
	})
}

// choose returns stocks for a coat.
func choose(h api.DyeHouse, c api.DyeCoat, l []api.DyeStock) choice {
	x := choice{need: c.Need, stocks: l}
	for i, s := range l {
		x.old = append(x.old, looksOld(h, c, s.Baths))
		var alike []bool
		for _, t := range l[:i] {
			alike = append(alike, !slices.ContainsFunc(words(h, c.Lamps, s.Baths, t.Baths, c.Eye), func(w api.DyeWord) bool {
				return w != api.DyeSurely
			}))
		}
		x.alike = append(x.alike, alike)
	}
	return x
}

// looksOld reports whether a batch surely looks like all old buttons of a coat, under each lamp.
func looksOld(h api.DyeHouse, c api.DyeCoat, l []api.DyeBath) bool {
	for i, lamp := range c.Lamps {
		look, old := lit{h, lamp.Weights}.look(l), c.Old[i]
		if max(look.High-old.Low, old.High-look.Low) > c.Eye.Low {
			return false
		}
	}
	return true
}

// sets goes through the sets that suit.
func (x choice) sets() iter.Seq[int] {
	return func(yield func(int) bool) {
		for set := range 1 << len(x.stocks) {
			if x.suits(set) && !yield(set) {
				return
			}
		}
	}
}

// suits reports whether a set suits.
func (x choice) suits(set int) bool {
	many := 0
	for _, i := range x.members(set) {
		many += x.stocks[i].Many
		if !x.old[i] {
			return false
		}
		for j, alike := range x.alike[i] {
			if has(set, j) && !alike {
				return false
			}
		}
	}
	return many >= x.need
}

// compare returns which of two sets is better: a number below 0 if the first one is.
func (x choice) compare(a, b int) int {
	return cmp.Or(cmp.Compare(bits.OnesCount(uint(a)), bits.OnesCount(uint(b))), cmp.Compare(x.price(a), x.price(b)), cmp.Compare(a, b))
}

// price returns the sum of the prices of a set.
func (x choice) price(set int) int {
	var prices []int
	for _, i := range x.members(set) {
		prices = append(prices, x.stocks[i].Price)
	}
	return sum(prices...)
}

// members returns the numbers of the stocks of a set.
func (x choice) members(set int) []int {
	var found []int
	for i := range x.stocks {
		if has(set, i) {
			found = append(found, i)
		}
	}
	return found
}

// has reports whether a stock is in a set.
func has(set, stock int) bool { return set>>stock&1 == 1 }
