package order

import (
	"cmp"
	"iter"
	"slices"

	"nacre/api"
)

// load is how many packs of each kind are taken, and their price.
type load struct {
	taken []int
	price int
}

// Packs returns the best packs for some pieces, and their price.
func Packs(l []api.OrderPack, pieces int) ([]int, int, api.Errno) {
	if !arePacks(l) || !within(pieces, 0, api.OrderPieces) {
		return nil, 0, api.ErrArg
	}
	// the best packs for some pieces are the best ones for fewer, and one pack more
	found := map[int]load{0: {taken: make([]int, len(l))}}
	for n := 1; n <= pieces; n++ {
		found[n], _ = best(loads(l, n, found), compareLoads)
	}
	return found[pieces].taken, found[pieces].price, api.OK
}

// arePacks reports whether kinds of packs are as defined.
func arePacks(l []api.OrderPack) bool {
	return within(len(l), 1, api.OrderPacks) && areAll(l, func(p api.OrderPack) bool {
		return within(p.Holds, 1, api.OrderHolds) && within(p.Price, 0, api.OrderPrice)
	})
}

// loads goes through the packs that hold so many pieces: a pack of each kind, and the best packs for what it does not hold.
func loads(l []api.OrderPack, pieces int, found map[int]load) iter.Seq[load] {
	return func(yield func(load) bool) {
		for kind, p := range l {
			rest := found[max(0, pieces-p.Holds)]
			taken := slices.Clone(rest.taken)
			taken[kind]++
			if !yield(load{taken, total(rest.price, p.Price)}) {
				return
			}
		}
	}
}

// compareLoads compares by price, then by how many packs are taken, then in lexicographic order.
func compareLoads(a, b load) int {
	return cmp.Or(cmp.Compare(a.price, b.price), cmp.Compare(total(a.taken...), total(b.taken...)), slices.Compare(a.taken, b.taken))
}
