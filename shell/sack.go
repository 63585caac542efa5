package shell

import (
	"slices"

	"nacre/api"
)

// counts is a number of shells of each sort; there are none of a sort that there is not.
type counts [api.ShellSorts]int

// Sack returns the error of a sack.
func Sack(s api.ShellSack) api.Errno {
	if !within(s.Shells, 1, api.ShellShells) || !within(len(s.Sorts), 1, api.ShellSorts) || len(s.Seen) != len(s.Sorts) {
		return api.ErrArg
	}
	for _, sort := range s.Sorts {
		if !within(sort.Blanks, 0, api.ShellBlanks) || !isStone(sort.Weight) {
			return api.ErrArg
		}
	}
	if !areShells(s, s.Seen) || sum(s.Seen...) > s.Shells {
		return api.ErrArg
	}
	if !within(s.Weight, 0, api.ShellHeavy) || !within(s.Off, 0, api.ShellLoose) {
		return api.ErrArg
	}
	return api.OK
}

// Holds reports whether numbers of shells are a truth.
func Holds(s api.ShellSack, shells []int) (bool, api.Errno) {
	if Sack(s) != api.OK || len(shells) != len(s.Sorts) || !areShells(s, shells) {
		return false, api.ErrArg
	}
	return holds(s, count(s.Seen), count(shells)), api.OK
}

// Sorts returns the least and the greatest number of shells of each sort.
func Sorts(s api.ShellSack) ([]api.Span, api.Errno) {
	truths, e := possible(s)
	if e != api.OK {
		return nil, e
	}
	var spans []api.Span
	for sort := range s.Sorts {
		spans = append(spans, spanOf(truths, func(n counts) int { return n[sort] }))
	}
	return spans, api.OK
}

// Total returns the least and the greatest number of blanks of a sack.
func Total(s api.ShellSack) (api.Span, api.Errno) {
	truths, e := possible(s)
	if e != api.OK {
		return api.Span{}, e
	}
	return spanOf(truths, func(n counts) int { return blanksOf(s, n) }), api.OK
}

// Looks returns the looks that are needed.
func Looks(s api.ShellSack, blanks int) (int, api.Errno) {
	if !within(blanks, 0, api.ShellShells*api.ShellBlanks) {
		return 0, api.ErrArg
	}
	if _, e := possible(s); e != api.OK {
		return 0, e
	}
	// a sack that is looked at differs from s in what was seen alone, in whatever order that was
	met := map[counts]int{}
	var needed func(seen counts) int
	needed = func(seen counts) int {
		if n, ok := met[seen]; ok {
			return n
		}
		most := 0
		truths := truthsOf(s, seen)
		total := spanOf(truths, func(n counts) int { return blanksOf(s, n) })
		if total.Low < blanks && blanks <= total.High {
			for sort := range s.Sorts {
				if slices.ContainsFunc(truths, func(n counts) bool { return n[sort] > seen[sort] }) {
					next := seen
					next[sort]++
					most = max(most, 1+needed(next))
				}
			}
		}
		met[seen] = most
		return most
	}
	return needed(count(s.Seen)), api.OK
}

// isStone reports whether a span is one of what a shell can weigh.
func isStone(s api.Span) bool {
	return within(s.Low, 1, api.ShellStone) && within(s.High, s.Low, api.ShellStone)
}

// areShells reports whether all numbers are from 0 to the sack's Shells.
func areShells(s api.ShellSack, shells []int) bool {
	return !slices.ContainsFunc(shells, func(n int) bool { return !within(n, 0, s.Shells) })
}

// count returns numbers of shells as counts.
func count(shells []int) counts {
	var n counts
	copy(n[:], shells)
	return n
}

// holds reports whether numbers of shells are a truth of a sack of which some shells were seen.
func holds(s api.ShellSack, seen, n counts) bool {
	least, most := 0, 0
	for sort, kind := range s.Sorts {
		if n[sort] < seen[sort] {
			return false
		}
		least += n[sort] * kind.Weight.Low
		most += n[sort] * kind.Weight.High
	}
	return sum(n[:]...) == s.Shells && least <= s.Weight+s.Off && most >= s.Weight-s.Off
}

// truthsOf returns all truths of a sack of which some shells were seen.
func truthsOf(s api.ShellSack, seen counts) []counts {
	var found []counts
	var search func(n counts, sort, left int)
	search = func(n counts, sort, left int) {
		if sort == len(s.Sorts) {
			if holds(s, seen, n) {
				found = append(found, n)
			}
			return
		}
		for many := range left + 1 {
			n[sort] = many
			search(n, sort+1, left-many)
		}
	}
	search(counts{}, 0, s.Shells)
	return found
}

// possible returns the truths of a sack, at least one, or its error.
func possible(s api.ShellSack) ([]counts, api.Errno) {
	if Sack(s) != api.OK {
		return nil, api.ErrArg
	}
	truths := truthsOf(s, count(s.Seen))
	if len(truths) == 0 {
		return nil, api.ErrRule
	}
	return truths, api.OK
}

// blanksOf returns how many blanks a sack has in a truth.
func blanksOf(s api.ShellSack, n counts) int {
	blanks := 0
	for sort, kind := range s.Sorts {
		blanks += n[sort] * kind.Blanks
	}
	return blanks
}

// spanOf returns between which ends lies what is measured, over at least one truth.
func spanOf(truths []counts, measure func(counts) int) api.Span {
	first := measure(truths[0])
	s := api.Span{Low: first, High: first}
	for _, n := range truths[1:] {
		s.Low, s.High = min(s.Low, measure(n)), max(s.High, measure(n))
	}
	return s
}
