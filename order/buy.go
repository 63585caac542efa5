package order

import (
	"cmp"
	"iter"
	"slices"

	"nacre/api"
)

// market is sellers, and how many pieces are wanted of each of the goods.
type market struct {
	sellers []api.OrderSeller
	wants   []int
}

// Costs returns what a purchase costs.
func Costs(l []api.OrderSeller, wants []int, plan [][]int) (int, api.Errno) {
	m := market{l, wants}
	if !m.isDefined() {
		return 0, api.ErrArg
	}
	costs := 0
	if e := attempt(func() { costs = m.costs(m.purchase(plan)) }); e != api.OK {
		return 0, e
	}
	return costs, api.OK
}

// Buy returns the best purchase, and what it costs.
func Buy(l []api.OrderSeller, wants []int) ([][]int, int, api.Errno) {
	m := market{l, wants}
	if !m.isDefined() {
		return nil, 0, api.ErrArg
	}
	plan, found := best(m.plans(), m.compare)
	if !found {
		return nil, 0, api.ErrNone
	}
	return plan, m.costs(plan), api.OK
}

// isDefined reports whether the sellers, and what is wanted, are as defined.
func (m market) isDefined() bool {
	if !within(len(m.wants), 1, api.OrderGoods) || !within(len(m.sellers), 1, api.OrderSellers) {
		return false
	}
	return areAll(m.sellers, m.isSeller) && m.areNumbers(m.wants, api.OrderSellers*api.OrderStock)
}

func (m market) isSeller(s api.OrderSeller) bool {
	return within(s.Parcel, 0, api.OrderPrice) && m.areNumbers(s.Stock, api.OrderStock) && m.areNumbers(s.Price, api.OrderPrice)
}

// areNumbers reports whether a list has a number for each of the goods, from 0 to some other number.
func (m market) areNumbers(list []int, most int) bool {
	return len(list) == len(m.wants) && areAll(list, func(n int) bool { return within(n, 0, most) })
}

// purchase returns a list that is a purchase; it gives up if it is none.
func (m market) purchase(plan [][]int) [][]int {
	if len(plan) != len(m.sellers) {
		panic(refusal{})
	}
	bought := make([]int, len(m.wants))
	for i, s := range m.sellers {
		if len(plan[i]) != len(m.wants) {
			panic(refusal{})
		}
		for good, n := range plan[i] {
			if !within(n, 0, s.Stock[good]) {
				panic(refusal{})
			}
			bought[good] += n
		}
	}
	if !slices.Equal(bought, m.wants) {
		panic(refusal{})
	}
	return plan
}

// costs returns what a purchase costs.
func (m market) costs(plan [][]int) int {
	var prices []int
	for i, s := range m.sellers {
		if isBought(plan[i]) {
			prices = append(prices, s.Parcel)
		}
		for good, n := range plan[i] {
			prices = append(prices, n*s.Price[good])
		}
	}
	return total(prices...)
}

// isBought reports whether any piece is bought.
func isBought(pieces []int) bool { return total(pieces...) > 0 }

// compare compares purchases by what they cost, then by how many sellers there are, then in lexicographic order.
func (m market) compare(a, b [][]int) int {
	return cmp.Or(cmp.Compare(m.costs(a), m.costs(b)), cmp.Compare(many(a), many(b)), slices.CompareFunc(a, b, slices.Compare[[]int]))
}

// many returns of how many sellers any piece is bought.
func many(plan [][]int) int {
	sellers := 0
	for _, pieces := range plan {
		if isBought(pieces) {
			sellers++
		}
	}
	return sellers
}

// plans goes through a purchase from each set of sellers from which there is one.
func (m market) plans() iter.Seq[[][]int] {
	return func(yield func([][]int) bool) {
		for set := range 1 << len(m.sellers) {
			plan, found := m.planFrom(set)
			if found && !yield(plan) {
				return
			}
		}
	}
}

// planFrom returns, of the purchases from a set of sellers whose pieces are cheapest, the first one; false if there is none.
// The best purchase is this one, for just the sellers that it needs: what their parcels cost is the same for all from these.
func (m market) planFrom(set int) ([][]int, bool) {
	plan := make([][]int, len(m.sellers))
	for i := range plan {
		plan[i] = make([]int, len(m.wants))
	}
	for good, rest := range m.wants {
		for _, i := range m.cheapest(good) {
			if has(set, i) {
				plan[i][good] = min(rest, m.sellers[i].Stock[good])
				rest -= plan[i][good]
			}
		}
		if rest > 0 {
			return nil, false
		}
	}
	return plan, true
}

// cheapest returns the sellers by their price of one of the goods; of equal ones the last one comes first,
// since a purchase comes before others if little is bought of the first sellers.
func (m market) cheapest(good int) []int {
	var sellers []int
	for i := range m.sellers {
		sellers = append(sellers, i)
	}
	slices.SortFunc(sellers, func(i, j int) int {
		return cmp.Or(cmp.Compare(m.sellers[i].Price[good], m.sellers[j].Price[good]), cmp.Compare(j, i))
	})
	return sellers
}
