package card

import (
	"cmp"
	"iter"
	"slices"

	"nacre/api"
)

// works is the number of the works among the houses.
const works = 0

// Tour returns the best tour of some houses, and its length.
func Tour(c api.CardRoads, houses []int) ([]int, int, api.Errno) {
	if !areRoads(c) || !areIncreasing(c, houses) {
		return nil, 0, api.ErrArg
	}
	if e := attempt(func() { carry(c, houses) }); e != api.OK {
		return nil, 0, e
	}
	tour, _ := best(tours(houses), func(a, b []int) int {
		return cmp.Compare(length(c, a), length(c, b))
	})
	return tour, length(c, tour), api.OK
}

// Keeps reports whether lists of houses are a plan, and its length.
func Keeps(c api.CardRoads, plan [][]int) (bool, int, api.Errno) {
	if !areRoads(c) || !areAll(plan, func(tour []int) bool { return areStops(c, tour) }) {
		return false, 0, api.ErrArg
	}
	if !hasEach(c, plan) {
		return false, 0, api.OK
	}
	e := attempt(func() {
		for _, tour := range plan {
			carry(c, tour)
		}
	})
	if e != api.OK {
		return false, 0, api.OK
	}
	return true, length(c, plan...), api.OK
}

// Plan returns the best plan, and its length.
func Plan(c api.CardRoads) ([][]int, int, api.Errno) {
	if !areRoads(c) {
		return nil, 0, api.ErrArg
	}
	plan, ok := best(plans(c), func(a, b [][]int) int {
		return cmp.Or(cmp.Compare(len(a), len(b)), cmp.Compare(length(c, a...), length(c, b...)))
	})
	if !ok {
		return nil, 0, api.ErrNone
	}
	return plan, length(c, plan...), api.OK
}

// areRoads reports whether roads are as defined.
func areRoads(c api.CardRoads) bool {
	numbers := len(c.Loads) + 1
	return within(len(c.Loads), 1, api.CardStops) && areAll(c.Loads, isLoad) && isLoad(c.Bears) && len(c.Far) == numbers && areAll(c.Far, func(l []int) bool {
		return len(l) == numbers && areAll(l, func(n int) bool { return within(n, 0, api.CardFar) })
	})
}

func isLoad(n int) bool { return within(n, 0, api.CardLoad) }

// areStops reports whether numbers are those of houses.
func areStops(c api.CardRoads, list []int) bool {
	return areAll(list, func(house int) bool { return within(house, works+1, len(c.Loads)) })
}

// areIncreasing reports whether a list is one of some houses, in increasing order.
func areIncreasing(c api.CardRoads, list []int) bool {
	last := works
	for _, house := range list {
		if !within(house, last+1, len(c.Loads)) {
			return false
		}
		last = house
	}
	return len(list) > 0
}

// hasEach reports whether each house comes in just one of some lists, and none of the lists is empty.
func hasEach(c api.CardRoads, plan [][]int) bool {
	met := map[int]bool{}
	for _, tour := range plan {
		if len(tour) == 0 {
			return false
		}
		for _, house := range tour {
			if met[house] {
				return false
			}
			met[house] = true
		}
	}
	return len(met) == len(c.Loads)
}

// load returns the sum of the loads of some houses.
func load(c api.CardRoads, tour []int) int {
	var loads []int
	for _, house := range tour {
		loads = append(loads, c.Loads[house-1])
	}
	return sum(loads...)
}

// carry takes the loads of a tour; it gives up if they are too heavy.
func carry(c api.CardRoads, tour []int) {
	if load(c, tour) > c.Bears {
		panic(tooHeavy{})
	}
}

// length returns the length of some tours, together.
func length(c api.CardRoads, tours ...[]int) int {
	var ways []int
	for _, tour := range tours {
		at := works
		for _, house := range tour {
			ways = append(ways, c.Far[at][house])
			at = house
		}
		ways = append(ways, c.Far[at][works])
	}
	return sum(ways...)
}

// tours goes through the orders of some houses, in lexicographic order if the houses are in increasing order.
func tours(houses []int) iter.Seq[[]int] {
	return func(yield func([]int) bool) {
		var extend func(tour, left []int) bool
		extend = func(tour, left []int) bool {
			if len(left) == 0 {
				return yield(tour)
			}
			for i, house := range left {
				if !extend(with(tour, house), without(left, i)) {
					return false
				}
			}
			return true
		}
		extend(nil, houses)
	}
}

// plans goes through all plans, in lexicographic order, tour by tour.
func plans(c api.CardRoads) iter.Seq[[][]int] {
	var houses []int
	for house := range len(c.Loads) {
		houses = append(houses, house+1)
	}
	return func(yield func([][]int) bool) {
		// the last tour may go on, those of the plan may not
		var extend func(plan [][]int, last, left []int) bool
		extend = func(plan [][]int, last, left []int) bool {
			if load(c, last) > c.Bears {
				return true
			}
			if len(left) == 0 {
				return yield(with(plan, last))
			}
			// a tour that ends comes before those that it is the beginning of
			for i, house := range left {
				if len(last) > 0 && !extend(with(plan, last), []int{house}, without(left, i)) {
					return false
				}
			}
			for i, house := range left {
				if !extend(plan, with(last, house), without(left, i)) {
					return false
				}
			}
			return true
		}
		extend(nil, nil, houses)
	}
}

// with returns a list with one element more behind it.
func with[T any](list []T, x T) []T { return append(slices.Clone(list), x) }

// without returns a list without the element at a place.
func without(list []int, place int) []int { return slices.Delete(slices.Clone(list), place, place+1) }
