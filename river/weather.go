package river

import "nacre/api"

// weather is between which ends the weather lies, for each river and each year.
type weather [api.RiverRivers][api.RiverYears]api.Span

// expected returns the weather of a book of which nothing more is known.
func expected(b api.RiverBook) weather {
	var w weather
	for river, r := range b.Rivers {
		for year := range b.Years {
			w[river][year] = r.Grow[year]
		}
	}
	return w
}

// after returns the weather that is left if a shell is of an origin; false if they agree for no weather that could be.
func (w weather) after(b api.RiverBook, s api.RiverShell, o api.RiverOrigin) (weather, bool) {
	e := attempt(func() { w.narrow(b, s, o) })
	return w, e == api.OK
}

// narrow leaves of the weather that for which a shell agrees with an origin; it gives up if there is none.
func (w *weather) narrow(b api.RiverBook, s api.RiverShell, o api.RiverOrigin) {
	if !isRiverOf(b, o.River) || !isYearOf(b, o.Year) || len(s.Rings) > o.Year+1 {
		panic(contradiction{})
	}
	first := o.Year + 1 - len(s.Rings)
	far := b.Rivers[o.River].Vary + s.Off
	for i, ring := range s.Rings {
		at := &w[o.River][first+i]
		*at = narrowed(*at, api.Span{Low: ring - far, High: ring + far})
	}
}

// reaching returns the least weather in which all of two lies.
func (w weather) reaching(other weather) weather {
	for river := range w {
		for year, s := range w[river] {
			w[river][year] = reaching(s, other[river][year])
		}
	}
	return w
}

// of returns the weather of the rivers and years of a book.
func (w weather) of(b api.RiverBook) [][]api.Span {
	var rivers [][]api.Span
	for river := range b.Rivers {
		var years []api.Span
		for year := range b.Years {
			years = append(years, w[river][year])
		}
		rivers = append(rivers, years)
	}
	return rivers
}
