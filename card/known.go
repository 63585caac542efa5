package card

import (
	"iter"
	"maps"
	"slices"

	"nacre/api"
)

// amounts are numbers that can be.
type amounts map[int]bool

// finding is what is so in some truth: what a button weighs, and the buttons of one house and of all houses.
type finding struct {
	weight, own, all int
}

// Known returns between which bounds the buttons of each house lie.
func Known(r api.CardRound) ([]api.Span, api.Errno) {
	if !isRound(r) {
		return nil, api.ErrArg
	}
	var known []api.Span
	for house := range len(r.Houses) {
		s, e := bounds(findings(r, house, trusted), func(f finding) int { return f.own })
		if e != api.OK {
			return nil, e
		}
		known = append(known, s)
	}
	return known, api.OK
}

// Total returns between which bounds the buttons of all houses lie.
func Total(r api.CardRound) (api.Span, api.Errno) {
	if !isRound(r) {
		return api.Span{}, api.ErrArg
	}
	return bounds(findings(r, 0, trusted), func(f finding) int { return f.all })
}

// Buttons returns between which bounds the weight of a button lies.
func Buttons(r api.CardRound) (api.Span, api.Errno) {
	if !isRound(r) {
		return api.Span{}, api.ErrArg
	}
	return bounds(findings(r, 0, trusted), func(f finding) int { return f.weight })
}

// Wrong returns the houses that can be wrong.
func Wrong(r api.CardRound) ([]int, api.Errno) {
	switch {
	case !isRound(r):
		return nil, api.ErrArg
	case agrees(r, 0, trusted):
		return nil, api.ErrRule
	}
	var wrong []int
	for house := range len(r.Houses) {
		if agrees(r, house, doubted) {
			wrong = append(wrong, house)
		}
	}
	if len(wrong) == 0 {
		return nil, api.ErrNone
	}
	return wrong, api.OK
}

// Mends returns between which bounds the buttons of a house lie, if it counted wrong.
func Mends(r api.CardRound, house int) (api.Span, api.Errno) {
	if !isRound(r) || !within(house, 0, len(r.Houses)-1) {
		return api.Span{}, api.ErrArg
	}
	return bounds(findings(r, house, doubted), func(f finding) int { return f.own })
}

// findings goes through what can be so of a house that is trusted or doubted, over all truths; the other houses are trusted.
func findings(r api.CardRound, house int, t trust) iter.Seq[finding] {
	return func(yield func(finding) bool) {
	search:
		for weight := r.Button.Low; weight <= r.Button.High; weight++ {
			w := weighing{r, weight}
			others := slices.Sorted(maps.Keys(w.others(house)))
			for full, loose := range w.brought(house, t) {
				own := w.buttons(full, loose)
				for _, n := range others {
					if w.isAll(own+n) && !yield(finding{weight, own, own + n}) {
						break search
					}
				}
			}
		}
	}
}

// agrees reports whether a round agrees, if a house is trusted or doubted.
func agrees(r api.CardRound, house int, t trust) bool {
	for range findings(r, house, t) {
		return true
	}
	return false
}

// bounds returns the least and the greatest of what some findings give; ErrRule if there are none.
func bounds(found iter.Seq[finding], give func(finding) int) (api.Span, api.Errno) {
	a := amounts{}
	for f := range found {
		a[give(f)] = true
	}
	if len(a) == 0 {
		return api.Span{}, api.ErrRule
	}
	ends := a.ends()
	return api.Span{Low: ends[0](), High: ends[1]()}, api.OK
}

// others returns what all houses but one can have brought, together, if all of them are trusted.
func (w weighing) others(but int) amounts {
	sums := amounts{0: true}
	for house := range len(w.Houses) {
		if house == but {
			continue
		}
		longer := amounts{}
		for full, loose := range w.brought(house, trusted) {
			for n := range sums {
				longer[n+w.buttons(full, loose)] = true
			}
		}
		sums = longer
	}
	return sums
}

// ends returns what gives the least of some amounts, and what gives the greatest.
func (a amounts) ends() [2]func() int { return [2]func() int{a.least, a.greatest} }

func (a amounts) least() int { return slices.Min(slices.Collect(maps.Keys(a))) }

func (a amounts) greatest() int { return slices.Max(slices.Collect(maps.Keys(a))) }
