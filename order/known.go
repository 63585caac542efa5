package order

import (
	"cmp"
	"iter"
	"slices"

	"nacre/api"
)

// sense is what the numbers of an edition can mean together, and in how many truths they do.
type sense struct {
	means  []int
	truths int
}

// known is a book with what its numbers can mean, in each edition.
type known struct {
	api.OrderBook
	can [][]sense
}

// question is an edition and a number, and how many truths are left after the worst answer.
type question struct {
	edition, number, left int
}

// Means returns the goods that a number of an edition can mean.
func Means(b api.OrderBook, edition, number int) ([]int, api.Errno) {
	if !isBook(b) || !isEditionOf(b, edition) || !isGoodOf(b, number) {
		return nil, api.ErrArg
	}
	k := study(b)
	if !k.isPossible() {
		return nil, api.ErrRule
	}
	return k.numbered(func(good int) bool { return k.left(edition, number, good) > 0 }), api.OK
}

// Numbers returns the numbers of an edition that can mean one of the goods.
func Numbers(b api.OrderBook, edition, good int) ([]int, api.Errno) {
	if !isBook(b) || !isEditionOf(b, edition) || !isGoodOf(b, good) {
		return nil, api.ErrArg
	}
	k := study(b)
	if !k.isPossible() {
		return nil, api.ErrRule
	}
	return k.numbered(func(number int) bool { return k.left(edition, number, good) > 0 }), api.OK
}

// Truths returns how many truths a book has.
func Truths(b api.OrderBook) (int, api.Errno) {
	if !isBook(b) {
		return 0, api.ErrArg
	}
	k := study(b)
	if !k.isPossible() {
		return 0, api.ErrRule
	}
	return k.all(), api.OK
}

// Ask returns the best question, and how many truths are left after the worst answer.
func Ask(b api.OrderBook) (int, int, int, api.Errno) {
	if !isBook(b) {
		return 0, 0, 0, api.ErrArg
	}
	k := study(b)
	if !k.isPossible() {
		return 0, 0, 0, api.ErrRule
	}
	if k.all() == 1 {
		return 0, 0, 0, api.ErrNone
	}
	q, _ := best(k.questions(), func(a, b question) int { return cmp.Compare(a.left, b.left) })
	return q.edition, q.number, q.left, api.OK
}

// study returns what the numbers of a book can mean.
func study(b api.OrderBook) known {
	k := known{OrderBook: b}
	for edition := range k.Editions {
		k.can = append(k.can, nil)
		for means := range orders(len(k.Goods)) {
			if agrees(b, edition, means) {
				k.can[edition] = append(k.can[edition], sense{means: means})
			}
		}
	}
	for edition := range k.Editions {
		k.count(edition)
	}
	for edition, senses := range k.can {
		k.can[edition] = slices.DeleteFunc(senses, func(s sense) bool { return s.truths == 0 })
	}
	return k
}

// orders goes through all orders of so many goods; each one is a new list.
func orders(goods int) iter.Seq[[]int] {
	return func(yield func([]int) bool) {
		var give func(order []int) bool
		give = func(order []int) bool {
			if len(order) == goods {
				return yield(order)
			}
			for good := range goods {
				if !slices.Contains(order, good) && !give(append(slices.Clone(order), good)) {
					return false
				}
			}
			return true
		}
		give(nil)
	}
}

// count sets in how many truths the numbers of an edition mean what they can mean.
func (k known) count(edition int) {
	sides := [...]func(edition int) []int{k.before, k.after}
	senses := k.can[edition]
	for i := range senses {
		senses[i].truths = 1
	}
	for _, side := range sides {
		for i, ways := range side(edition) {
			senses[i].truths *= ways
		}
	}
}

// before returns, for all that the numbers of an edition can mean, how many ways the editions before it can be.
func (k known) before(edition int) []int { return k.beside(edition, edition-1, k.before) }

// after returns, for all that the numbers of an edition can mean, how many ways the editions after it can be.
func (k known) after(edition int) []int { return k.beside(edition, edition+1, k.after) }

// beside returns, for all that the numbers of an edition can mean, how many ways the next one on a side can be,
// with those beyond it.
func (k known) beside(edition, next int, beyond func(int) []int) []int {
	ways := make([]int, len(k.can[edition]))
	if !isEditionOf(k.OrderBook, next) {
		// no edition at all is one way
		for i := range ways {
			ways[i] = 1
		}
		return ways
	}
	more := beyond(next)
	for i, s := range k.can[edition] {
		for j, other := range k.can[next] {
			if moved(s.means, other.means) <= k.Moves {
				ways[i] += more[j]
			}
		}
	}
	return ways
}

func (k known) isPossible() bool { return len(k.can[0]) > 0 }

// all returns how many truths there are.
func (k known) all() int {
	many := 0
	for _, s := range k.can[0] {
		many += s.truths
	}
	return many
}

// left returns how many truths are left if a number of an edition means one of the goods.
func (k known) left(edition, number, good int) int {
	many := 0
	for _, s := range k.can[edition] {
		if s.means[number] == good {
			many += s.truths
		}
	}
	return many
}

// questions goes through all questions, by edition, then by number.
func (k known) questions() iter.Seq[question] {
	return func(yield func(question) bool) {
		for edition := range k.Editions {
			for number := range k.Goods {
				q := question{edition: edition, number: number}
				for good := range k.Goods {
					q.left = max(q.left, k.left(edition, number, good))
				}
				if !yield(q) {
					return
				}
			}
		}
	}
}

// numbered returns the numbers from 0 to one less than how many goods there are for which something is so.
func (k known) numbered(is func(int) bool) []int {
	var some []int
	for n := range k.Goods {
		if is(n) {
			some = append(some, n)
		}
	}
	return some
}
