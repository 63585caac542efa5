package mould_test

import (
	"iter"
	"math/bits"
	"reflect"
	"slices"
	"strings"
	"testing"

	"nacre/api"
)

const far = 1<<63 - 1

// dice gives numbers that look random, and are the same each time.
type dice uint64

func (d *dice) upTo(n int) int {
	*d = *d*6364136223846793005 + 1442695040888963407
	return int(uint64(*d)>>33) % (n + 1)
}

func (d *dice) from(low, high int) int { return low + d.upTo(high-low) }

func (d *dice) in(s api.Span) int { return d.from(s.Low, s.High) }

// span returns a span by chance from low to high, most often a narrow one.
func (d *dice) span(low, high, wide int) api.Span {
	first := d.from(low, high)
	return span(first, min(high, first+d.upTo(wide)*d.upTo(1)))
}

func span(low, high int) api.Span { return api.Span{Low: low, High: high} }

func only(n int) api.Span { return span(n, n) }

func list(n ...int) []int { return n }

func find(seen, day int) api.MouldFind { return api.MouldFind{Seen: seen, Day: day} }

// bookB returns the book b of the chapter.
func bookB() api.MouldBook {
	return api.MouldBook{Miss: 1, Moulds: []api.MouldMould{
		{
			Parent: -1,
			Marks:  []api.MouldMark{{Spot: 0, First: only(1)}, {Spot: 1, First: span(4, 8)}},
			Loans:  []api.MouldLoan{{House: 0, Strikes: span(5, 6), From: span(1, 2)}, {House: 1, Strikes: span(3, 5), From: only(5)}},
		},
		{
			Parent: 0, Cut: span(2, 5),
			Marks: []api.MouldMark{{Spot: 2, First: span(3, 4)}},
			Loans: []api.MouldLoan{{House: 2, Strikes: span(4, 8), From: span(3, 4)}},
		},
	}}
}

// changed returns the book b with some change.
func changed(change func(b *api.MouldBook)) api.MouldBook {
	b := bookB()
	change(&b)
	return b
}

// bookC returns the book c of the chapter.
func bookC() api.MouldBook { return changed(func(b *api.MouldBook) { b.Miss = 0 }) }

// torn returns a book that is not possible.
func torn() api.MouldBook {
	return changed(func(b *api.MouldBook) { b.Moulds[0].Loans[1].From = only(0) })
}

// bareBook returns a book with as little of everything as there can be.
func bareBook() api.MouldBook {
	return api.MouldBook{Moulds: []api.MouldMould{{Parent: -1, Loans: make([]api.MouldLoan, 1)}}}
}

// fullBook returns a book with as much of everything as there can be.
func fullBook() api.MouldBook {
	b := api.MouldBook{Miss: 2, Ghost: 2}
	for mould := range 5 {
		m := api.MouldMould{Parent: 0, Cut: span(31, 36)}
		spot := 0
		if mould == 0 {
			m.Parent, m.Cut, spot = -1, only(0), 4
		}
		for i := range 4 {
			m.Marks = append(m.Marks, api.MouldMark{Spot: spot + i, First: span(1, 36)})
		}
		m.Loans = slices.Repeat([]api.MouldLoan{{House: 5 - mould, Strikes: span(0, 12), From: span(0, 99)}}, 3)
		b.Moulds = append(b.Moulds, m)
	}
	return b
}

// deepBook returns a book of one line, whose last mould has no marks but those of all others.
func deepBook() api.MouldBook {
	b := fullBook()
	for mould := range b.Moulds {
		m := &b.Moulds[mould]
		if mould > 0 {
			m.Parent = mould - 1
		}
		m.Marks = nil
		for spot := 2 * mould; spot < min(2*mould+2, 8); spot++ {
			m.Marks = append(m.Marks, api.MouldMark{Spot: spot, First: span(1+spot, 29+spot)})
		}
	}
	return b
}

// badBooks returns books that are not as defined.
func badBooks() map[string]api.MouldBook {
	bad := map[string]api.MouldBook{"nothing": {}}
	for name, change := range map[string]func(b *api.MouldBook){
		"a Miss of -1":            func(b *api.MouldBook) { b.Miss = -1 },
		"a Miss of 3":             func(b *api.MouldBook) { b.Miss = 3 },
		"a Ghost of -1":           func(b *api.MouldBook) { b.Ghost = -1 },
		"a Ghost of 3":            func(b *api.MouldBook) { b.Ghost = 3 },
		"a Ghost far above":       func(b *api.MouldBook) { b.Ghost = far },
		"no moulds":               func(b *api.MouldBook) { b.Moulds = nil },
		"6 moulds":                func(b *api.MouldBook) { b.Moulds = slices.Repeat(b.Moulds[:1], 6) },
		"many moulds":             func(b *api.MouldBook) { b.Moulds = slices.Repeat(b.Moulds[:1], 100000) },
		"a parent of its own":     func(b *api.MouldBook) { b.Moulds[0].Parent = 0 },
		"its own parent":          func(b *api.MouldBook) { b.Moulds[1].Parent = 1 },
		"its own, bare":           func(b *api.MouldBook) { b.Moulds[0].Parent, b.Moulds[0].Marks = 0, nil },
		"a parent behind":         func(b *api.MouldBook) { b.Moulds[0].Parent = 1 },
		"a parent of -2":          func(b *api.MouldBook) { b.Moulds[1].Parent = -2 },
		"a parent of -2, no Cut":  func(b *api.MouldBook) { b.Moulds[1].Parent, b.Moulds[1].Cut = -2, only(0) },
		"a parent far below":      func(b *api.MouldBook) { b.Moulds[1].Parent, b.Moulds[1].Cut = -far-1, only(0) },
		"a parent far above":      func(b *api.MouldBook) { b.Moulds[1].Parent = far },
		"a Cut without a parent":  func(b *api.MouldBook) { b.Moulds[0].Cut = only(1) },
		"a Cut to 1 without one":  func(b *api.MouldBook) { b.Moulds[0].Cut = span(0, 1) },
		"no parent, and a Cut":    func(b *api.MouldBook) { b.Moulds[1].Parent = -1 },
		"a Cut from -1":           func(b *api.MouldBook) { b.Moulds[1].Cut = span(-1, 2) },
		"a Cut to 37":             func(b *api.MouldBook) { b.Moulds[1].Cut = span(36, 37) },
		"a Cut turned":            func(b *api.MouldBook) { b.Moulds[1].Cut = span(3, 2) },
		"a Cut too wide":          func(b *api.MouldBook) { b.Moulds[1].Cut = span(2, 8) },
		"a Cut of all":            func(b *api.MouldBook) { b.Moulds[1].Cut = span(-far-1, far) },
		"a Cut turned far":        func(b *api.MouldBook) { b.Moulds[1].Cut = span(far, -far-1) },
		"a Spot of -1":            func(b *api.MouldBook) { b.Moulds[1].Marks[0].Spot = -1 },
		"a Spot of 8":             func(b *api.MouldBook) { b.Moulds[1].Marks[0].Spot = 8 },
		"a Spot far below":        func(b *api.MouldBook) { b.Moulds[0].Marks[1].Spot = -far - 1 },
		"a First from 0":          func(b *api.MouldBook) { b.Moulds[1].Marks[0].First = span(0, 4) },
		"a First to 37":           func(b *api.MouldBook) { b.Moulds[1].Marks[0].First = span(3, 37) },
		"a First turned":          func(b *api.MouldBook) { b.Moulds[0].Marks[1].First = span(8, 7) },
		"two marks in a spot":     func(b *api.MouldBook) { b.Moulds[0].Marks[0].Spot = 1 },
		"a parent's spot":         func(b *api.MouldBook) { b.Moulds[1].Marks[0].Spot = 0 },
		"another one of it":       func(b *api.MouldBook) { b.Moulds[1].Marks[0].Spot = 1 },
		"no loans":                func(b *api.MouldBook) { b.Moulds[0].Loans = nil },
		"4 loans":                 func(b *api.MouldBook) { b.Moulds[1].Loans = slices.Repeat(b.Moulds[1].Loans, 4) },
		"a House of -1":           func(b *api.MouldBook) { b.Moulds[1].Loans[0].House = -1 },
		"a House of 6":            func(b *api.MouldBook) { b.Moulds[0].Loans[1].House = 6 },
		"Strikes from -1":         func(b *api.MouldBook) { b.Moulds[0].Loans[1].Strikes = span(-1, 2) },
		"Strikes to 13":           func(b *api.MouldBook) { b.Moulds[1].Loans[0].Strikes = span(4, 13) },
		"Strikes turned":          func(b *api.MouldBook) { b.Moulds[1].Loans[0].Strikes = span(4, 3) },
		"days from -1":            func(b *api.MouldBook) { b.Moulds[1].Loans[0].From = span(-1, 4) },
		"days to 100":             func(b *api.MouldBook) { b.Moulds[1].Loans[0].From = span(4, 100) },
		"days turned":             func(b *api.MouldBook) { b.Moulds[1].Loans[0].From = span(4, 3) },
		"not possible either":     func(b *api.MouldBook) { b.Moulds[0].Loans[1].From, b.Miss = only(0), 3 },
		"a grandparent's spot":    func(b *api.MouldBook) { b.Moulds = append(b.Moulds, copyOf(1, 0)) },
		"a brother's spot, twice": func(b *api.MouldBook) { b.Moulds = append(b.Moulds, copyOf(0, 2), copyOf(2, 2)) },
		"5 marks": func(b *api.MouldBook) {
			b.Moulds[0].Marks = nil
			for spot := range 5 {
				b.Moulds[0].Marks = append(b.Moulds[0].Marks, api.MouldMark{Spot: spot + 3, First: only(1)})
			}
		},
	} {
		bad[name] = changed(change)
	}
	return bad
}

// copyOf returns a mould with a parent and a mark in a spot.
func copyOf(parent, spot int) api.MouldMould {
	return api.MouldMould{Parent: parent, Cut: span(1, 3), Marks: []api.MouldMark{{Spot: spot, First: span(2, 3)}}, Loans: []api.MouldLoan{{House: 3, Strikes: span(1, 2), From: span(0, 9)}}}
}

// size is how large a book by chance can be.
type size struct {
	moulds, marks, loans, spots, houses, first, cut, wide, strikes, days int
}

// large is the size of any book but for its days; small is that of books of which all truths can be tried.
func large() size { return size{5, 4, 3, 8, 6, 36, 36, 5, 12, 30} }

func small() size { return size{3, 2, 2, 4, 3, 5, 5, 2, 3, 6} }

// early is the size of books whose marks come while they are lent, so that it matters when.
func early(d *dice) size { return size{5, 4, d.from(1, 2), 8, 6, 12, 12, 3, 12, 30} }

// bookBy returns a book by chance that is possible.
func bookBy(d *dice, s size) api.MouldBook {
	b := api.MouldBook{Miss: d.upTo(2) * d.upTo(1), Ghost: d.upTo(2) * d.upTo(1)}
	var taken []int // the spots of the line of each mould
	for mould := range d.from(1, s.moulds) {
		m := api.MouldMould{Parent: d.from(-1, mould-1)}
		spots := 0
		if m.Parent >= 0 {
			m.Cut = d.span(0, s.cut, s.wide)
			spots = taken[m.Parent]
		}
		for range d.upTo(s.marks) {
			if spot := d.upTo(s.spots - 1); spots>>spot&1 == 0 {
				spots |= 1 << spot
				m.Marks = append(m.Marks, api.MouldMark{Spot: spot, First: d.span(1, s.first, s.first/2)})
			}
		}
		taken = append(taken, spots)
		day := 0
		for range d.from(1, s.loans) {
			l := api.MouldLoan{House: d.upTo(s.houses - 1), Strikes: d.span(0, s.strikes, s.strikes), From: d.span(0, s.days, 3)}
			// days that must not go back
			day = max(day, l.From.Low)
			l.From.High = max(day, l.From.High)
			m.Loans = append(m.Loans, l)
		}
		b.Moulds = append(b.Moulds, m)
	}
	return b
}

// smallBookBy returns a book by chance that has some truths, not too many to try.
func smallBookBy(d *dice) api.MouldBook {
	for {
		b := bookBy(d, small())
		n := 1
		for _, m := range b.Moulds {
			n *= width(m.Cut)
			for _, x := range m.Marks {
				n *= width(x.First)
			}
			for _, x := range m.Loans {
				n *= width(x.Strikes) * width(x.From)
			}
		}
		if n >= 30 && n <= 1500 {
			return b
		}
	}
}

func width(s api.Span) int { return s.High - s.Low + 1 }

// truthBy returns a truth by chance of a book that is possible.
func truthBy(d *dice, b api.MouldBook) api.MouldTruth {
	var t api.MouldTruth
	for _, m := range b.Moulds {
		var first, strikes, days []int
		for _, x := range m.Marks {
			first = append(first, d.in(x.First))
		}
		day := 0
		for i, x := range m.Loans {
			strikes = append(strikes, d.in(x.Strikes))
			// a day must leave days for later loans
			latest := x.From.High
			for _, after := range m.Loans[i:] {
				latest = min(latest, after.From.High)
			}
			day = d.from(max(day, x.From.Low), latest)
			days = append(days, day)
		}
		t.First, t.Cut, t.Strikes, t.Days = append(t.First, first), append(t.Cut, d.in(m.Cut)), append(t.Strikes, strikes), append(t.Days, days)
	}
	return t
}

// truths goes through all truths of a book, by trying all numbers.
func truths(b api.MouldBook) iter.Seq[api.MouldTruth] {
	return func(yield func(api.MouldTruth) bool) {
		t := api.MouldTruth{Cut: make([]int, len(b.Moulds))}
		var places []*int
		var spans []api.Span
		put := func(n *int, s api.Span) { places, spans = append(places, n), append(spans, s) }
		for i, m := range b.Moulds {
			t.First = append(t.First, make([]int, len(m.Marks)))
			t.Strikes = append(t.Strikes, make([]int, len(m.Loans)))
			t.Days = append(t.Days, make([]int, len(m.Loans)))
			put(&t.Cut[i], m.Cut)
			for j, x := range m.Marks {
				put(&t.First[i][j], x.First)
			}
			for j, x := range m.Loans {
				put(&t.Strikes[i][j], x.Strikes)
				put(&t.Days[i][j], x.From)
			}
		}
		var set func(place int) bool
		set = func(place int) bool {
			if place == len(places) {
				return slices.ContainsFunc(t.Days, func(days []int) bool { return !slices.IsSorted(days) }) || yield(t)
			}
			for n := spans[place].Low; n <= spans[place].High; n++ {
				*places[place] = n
				if !set(place + 1) {
					return false
				}
			}
			return true
		}
		set(0)
	}
}

// hasIn returns the set of the spots of the marks that a mould has at a strike, in truth.
func hasIn(b api.MouldBook, t api.MouldTruth, mould, strike int) int {
	m := b.Moulds[mould]
	set := 0
	for i, x := range m.Marks {
		if t.First[mould][i] <= strike {
			set |= 1 << x.Spot
		}
	}
	if m.Parent >= 0 {
		set |= hasIn(b, t, m.Parent, t.Cut[mould])
	}
	return set
}

// loanIn returns the loan of which a strike is one, in truth; -1 if there is none.
func loanIn(t api.MouldTruth, mould, strike int) int {
	for loan, n := range t.Strikes[mould] {
		if strike -= n; strike <= 0 {
			return loan
		}
	}
	return -1
}

// isRead reports whether a set of spots is read as another one.
func isRead(b api.MouldBook, seen, had int) bool {
	return bits.OnesCount(uint(had&^seen)) <= b.Miss && bits.OnesCount(uint(seen&^had)) <= b.Ghost
}

// misread returns what is seen of a set of spots, by chance.
func misread(d *dice, b api.MouldBook, had int) int {
	for {
		if seen := had&^(d.upTo(255)&d.upTo(255)) | d.upTo(255)&d.upTo(255)&d.upTo(255); isRead(b, seen, had) {
			return seen
		}
	}
}

// place is a strike of a mould.
type place struct {
	mould, strike int
}

// stamp is a crest that a mould can have stamped at a strike, in a loan that began on a day.
type stamp struct {
	place
	loan, day, had int
}

// pair is two crests that a mould can have stamped in one truth, in loans that began on two days.
type pair struct {
	mould, had, day, after, later int
}

// crest is which marks a mould can have at a strike.
type crest struct {
	place
	had int
}

// told is what is so in some truth of a book.
type told struct {
	b         api.MouldBook
	sure, can map[place]int
	stamps    map[stamp]bool
	pairs     map[pair]bool
	proved    map[crest][]ends
}

// ends is the least and the greatest of what was found, if anything was.
type ends struct {
	any bool
	api.Span
}

func (s *ends) add(n int) {
	if !s.any {
		s.any, s.Span = true, only(n)
	}
	s.Span = span(min(s.Low, n), max(s.High, n))
}

// horizon is a strike later than all strikes and marks of small books by chance.
const horizon = 8

// tried returns what is so of a small book up to the horizon, by trying all truths.
func tried(b api.MouldBook) told {
	k := told{b: b, sure: map[place]int{}, can: map[place]int{}, stamps: map[stamp]bool{}, pairs: map[pair]bool{}, proved: map[crest][]ends{}}
	for t := range truths(b) {
		for mould := range b.Moulds {
			k.try(t, mould)
		}
	}
	return k
}

// try adds what is so of a mould in a truth.
func (k *told) try(t api.MouldTruth, mould int) {
	var had, day [horizon + 1]int
	for strike := 1; strike <= horizon; strike++ {
		at := place{mould, strike}
		had[strike] = hasIn(k.b, t, mould, strike)
		if _, met := k.sure[at]; !met {
			k.sure[at] = 255
		}
		k.sure[at] &= had[strike]
		k.can[at] |= had[strike]
		if k.proved[crest{at, had[strike]}] == nil {
			k.proved[crest{at, had[strike]}] = make([]ends, len(t.First[mould]))
		}
		for i, n := range t.First[mould] {
			k.proved[crest{at, had[strike]}][i].add(n)
		}
		loan := loanIn(t, mould, strike)
		if loan < 0 {
			day[strike] = -1
			continue
		}
		day[strike] = t.Days[mould][loan]
		k.stamps[stamp{at, loan, day[strike], had[strike]}] = true
		for before := 1; before < strike; before++ {
			k.pairs[pair{mould, had[before], day[before], had[strike], day[strike]}] = true
		}
	}
}

// had returns the houses that can have had a mould at a strike.
func (k told) had(mould, strike int) []int {
	var houses []int
	for x := range k.stamps {
		if x.place == (place{mould, strike}) {
			houses = append(houses, k.b.Moulds[mould].Loans[x.loan].House)
		}
	}
	return each(houses)
}

// stamped goes through how a find can have been stamped.
func (k told) stamped(f api.MouldFind) iter.Seq[stamp] {
	return func(yield func(stamp) bool) {
		for x := range k.stamps {
			if x.day <= f.Day && isRead(k.b, f.Seen, x.had) && !yield(x) {
				return
			}
		}
	}
}

// could returns the moulds that can have stamped a find, and the houses.
func (k told) could(f api.MouldFind) (moulds, houses []int) {
	for x := range k.stamped(f) {
		moulds = append(moulds, x.mould)
		houses = append(houses, k.b.Moulds[x.mould].Loans[x.loan].House)
	}
	return each(moulds), each(houses)
}

// between returns the least and the greatest strike at which a mould can have stamped a find.
func (k told) between(f api.MouldFind, mould int) ends {
	var s ends
	for x := range k.stamped(f) {
		if x.mould == mould {
			s.add(x.strike)
		}
	}
	return s
}

// twice returns the moulds that can have stamped two finds.
func (k told) twice(f, g api.MouldFind) []int {
	var moulds []int
	for x := range k.pairs {
		if x.day <= f.Day && x.later <= g.Day && isRead(k.b, f.Seen, x.had) && isRead(k.b, g.Seen, x.after) {
			moulds = append(moulds, x.mould)
		}
	}
	return each(moulds)
}

// proves returns between which strikes marks came; false if the set does not agree.
func (k told) proves(mould, strike, seen int) ([]api.Span, bool) {
	all := make([]ends, len(k.b.Moulds[mould].Marks))
	agrees := false
	for x, found := range k.proved {
		if x.place != (place{mould, strike}) || !isRead(k.b, seen, x.had) {
			continue
		}
		agrees = true
		for i, s := range found {
			all[i].add(s.Low)
			all[i].add(s.High)
		}
	}
	var spans []api.Span
	for _, s := range all {
		spans = append(spans, s.Span)
	}
	return spans, agrees
}

// led returns to which houses each set of spots leads, by each mould.
func (k told) led() [256][api.MouldMany]int {
	var led [256][api.MouldMany]int
	for set := range led {
		for x := range k.stamped(find(set, api.MouldDays)) {
			led[set][x.mould] |= 1 << k.b.Moulds[x.mould].Loans[x.loan].House
		}
	}
	return led
}

// canHave reports whether a mould can have a set of spots at a strike, mark by mark, also of a large book.
func canHave(b api.MouldBook, mould, strike, set int) bool {
	m := b.Moulds[mould]
	for _, x := range m.Marks {
		if set>>x.Spot&1 == 1 && x.First.Low > strike || set>>x.Spot&1 == 0 && x.First.High <= strike {
			return false
		}
		set &^= 1 << x.Spot
	}
	if m.Parent < 0 {
		return set == 0
	}
	for cut := m.Cut.Low; cut <= m.Cut.High; cut++ {
		if canHave(b, m.Parent, cut, set) {
			return true
		}
	}
	return false
}

// loansOf goes through how often a mould can have been struck in its loans, and on which days they can have begun.
func loansOf(m api.MouldMould) iter.Seq2[[]int, []int] {
	return func(yield func(strikes, days []int) bool) {
		lone := api.MouldBook{Moulds: []api.MouldMould{{Parent: -1, Loans: m.Loans}}}
		for t := range truths(lone) {
			if !yield(t.Strikes[0], t.Days[0]) {
				return
			}
		}
	}
}

// undated returns a mould whose loans all began on one day.
func undated(m api.MouldMould) api.MouldMould {
	m.Loans = slices.Clone(m.Loans)
	for i := range m.Loans {
		m.Loans[i].From = only(0)
	}
	return m
}

// confusedBy returns the least set by which two moulds can be confused; false if there is none.
func confusedBy(led [256][api.MouldMany]int, one, other int) (int, bool) {
	for set, moulds := range led {
		if moulds[one] > 0 && moulds[other] > 0 {
			return set, true
		}
	}
	return 0, false
}

// isClear reports whether all moulds but those that are gone are clear.
func isClear(led [256][api.MouldMany]int, gone ...int) bool {
	for _, moulds := range led {
		houses := 0
		for mould, of := range moulds {
			if !slices.Contains(gone, mould) {
				houses |= of
			}
		}
		if bits.OnesCount(uint(houses)) > 1 {
			return false
		}
	}
	return true
}

// lists returns all lists of moulds in increasing order; shorter ones come first, and of equal lengths the lexicographic order holds.
func lists(moulds int) [][]int {
	var all [][]int
	for set := range 1 << moulds {
		var l []int
		for mould := range moulds {
			if set>>mould&1 == 1 {
				l = append(l, mould)
			}
		}
		all = append(all, l)
	}
	slices.SortFunc(all, func(a, b []int) int {
		if len(a) != len(b) {
			return len(a) - len(b)
		}
		return slices.Compare(a, b)
	})
	return all
}

// each returns some numbers in increasing order, each one once.
func each(n []int) []int {
	slices.Sort(n)
	return slices.Compact(n)
}

// sealed returns a text of lines, with the right CHECK.
func sealed(lines ...string) string {
	total := 0
	for n, line := range lines {
		for i, mark := range []byte(line) {
			total += int(mark) * (i + 1) * (n + 1)
		}
	}
	rest := total % 149
	digits := string([]byte{byte('0' + rest/100), byte('0' + rest/10%10), byte('0' + rest%10)})
	return strings.Join(append(slices.Clone(lines), "end "+digits), "\n") + "\n"
}

// sameBook reports whether two books are equal; nil and empty lists are.
func sameBook(a, b api.MouldBook) bool {
	return a.Miss == b.Miss && a.Ghost == b.Ghost && slices.EqualFunc(a.Moulds, b.Moulds, func(m, n api.MouldMould) bool {
		return m.Parent == n.Parent && m.Cut == n.Cut && slices.Equal(m.Marks, n.Marks) && slices.Equal(m.Loans, n.Loans)
	})
}

// empty reports whether a result is a zero value, or an empty list.
func empty(x any) bool {
	v := reflect.ValueOf(x)
	switch v.Kind() {
	case reflect.Slice:
		return v.Len() == 0
	case reflect.Struct:
		for i := range v.NumField() {
			if !empty(v.Field(i).Interface()) {
				return false
			}
		}
		return true
	}
	return v.IsZero()
}

// wantError fails unless a call has an error, and zero values with it.
func wantError(t *testing.T, name string, got, want api.Errno, results ...any) {
	t.Helper()
	if got != want {
		t.Errorf("%s: error %d, want %d", name, got, want)
	}
	for _, x := range results {
		if want != api.OK && !empty(x) {
			t.Errorf("%s: %v with the error %d", name, x, got)
		}
	}
}
