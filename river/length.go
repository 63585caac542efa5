package river

import "nacre/api"

// growth is how mussels grow in a river.
type growth api.RiverRiver

// Length returns between which bounds the sum of the rings of a mussel lies.
func Length(b api.RiverBook, river, from, to int) (api.Span, api.Errno) {
	if !isBook(b) || !isRiverOf(b, river) || !isYearOf(b, from) || !isYearOf(b, to) || from > to {
		return api.Span{}, api.ErrArg
	}
	return growth(b.Rivers[river]).length(from, to), api.OK
}

// Ripe returns the first year in which a mussel surely has a size.
func Ripe(b api.RiverBook, river, from, size int) (int, api.Errno) {
	if !isBook(b) || !isRiverOf(b, river) || !isYearOf(b, from) || !within(size, 0, api.RiverSize) {
		return 0, api.ErrArg
	}
	for year := range b.Years {
		if year >= from && growth(b.Rivers[river]).length(from, year).Low >= size {
			return year, api.OK
		}
	}
	return 0, api.ErrNone
}

// length returns between which ends the sum of the rings of some years lies.
func (g growth) length(from, to int) api.Span {
	var sums [2]int
	for end, ring := range g.ends() {
		for n := range to - from + 1 {
			sums[end] += ring(from + n)
		}
	}
	return api.Span{Low: sums[0], High: sums[1]}
}

// ends returns what tells the least ring of a year, and what tells the greatest one.
func (g growth) ends() [2]func(year int) int { return [2]func(year int) int{g.least, g.most} }

func (g growth) least(year int) int { return max(0, g.Grow[year].Low-g.Vary) }

func (g growth) most(year int) int { return g.Grow[year].High + g.Vary }
