package mould

import (
	"iter"
	"maps"
	"math/bits"
	"slices"

	"nacre/api"
)

// sets is how many sets of spots there are.
const sets = 1 << api.MouldSpots

// trace is a mark of a line, and between which ends the strike lies that decides whether a mould has it.
type trace struct {
	api.MouldMark
	at api.Span
}

// reading is a set of spots that was seen on a crest, and the one that the mould had.
type reading struct {
	seen, had int
}

// set returns the set of the spot of a mark.
func (t trace) set() int { return 1 << t.Spot }

// ends returns what tells whether a mould surely has a mark, and what tells whether it can have it.
func (t trace) ends() [2]func() bool { return [2]func() bool{t.isSure, t.canBe} }

func (t trace) isSure() bool { return t.First.High <= t.at.Low }

func (t trace) canBe() bool { return t.First.Low <= t.at.High }

// line goes through the marks of the line of a mould, at one of some strikes.
func line(b api.MouldBook, mould int, at api.Span) iter.Seq[trace] {
	return func(yield func(trace) bool) {
		m := b.Moulds[mould]
		for t := range marks(m, at) {
			if !yield(t) {
				return
			}
		}
		if m.Parent >= 0 {
			line(b, m.Parent, m.Cut)(yield)
		}
	}
}

// marks goes through the marks of a mould of its own, at one of some strikes.
func marks(m api.MouldMould, at api.Span) iter.Seq[trace] {
	return func(yield func(trace) bool) {
		for _, mark := range m.Marks {
			if !yield(trace{mark, at}) {
				return
			}
		}
	}
}

// spots returns the set of the spots of those marks that a mould surely has, and of those that it can have.
func spots(traces iter.Seq[trace]) (sure, can int) {
	var both [2]int
	for t := range traces {
		for end, is := range t.ends() {
			if is() {
				both[end] |= t.set()
			}
		}
	}
	return both[0], both[1]
}

// own returns the sets of spots that a mould can have by its own marks, at one of some strikes.
func own(m api.MouldMould, at api.Span) []int {
	found := map[int]bool{}
	for n := range at.High - at.Low + 1 {
		sure, can := spots(marks(m, only(at.Low+n)))
		for set := range sets {
			if set&sure == sure && set&can == set {
				found[set] = true
			}
		}
	}
	return slices.Sorted(maps.Keys(found))
}

// inherited returns the sets of spots that a mould can have by the marks of its parent, of the parent's parent, and so on.
func inherited(b api.MouldBook, mould int) []int {
	m := b.Moulds[mould]
	if m.Parent < 0 {
		return []int{0}
	}
	return joined(own(b.Moulds[m.Parent], m.Cut), inherited(b, m.Parent))
}

// joined returns each of some sets together with each of more of them. As no spot is in both, all of these differ.
func joined(some, more []int) []int {
	var all []int
	for _, one := range some {
		for _, other := range more {
			all = append(all, one|other)
		}
	}
	return all
}

// missed returns how many marks were not seen.
func (r reading) missed() int { return bits.OnesCount(uint(r.had &^ r.seen)) }

// ghosts returns how many spots were seen that are without a mark.
func (r reading) ghosts() int { return bits.OnesCount(uint(r.seen &^ r.had)) }

// agrees reports whether a crest can be read so.
func agrees(b api.MouldBook, r reading) bool {
	wrong := [2]func(reading) int{reading.missed, reading.ghosts}
	for i, most := range [2]int{b.Miss, b.Ghost} {
		if wrong[i](r) > most {
			return false
		}
	}
	return true
}

// agreesAny reports whether a set of spots that was seen agrees with one of some sets.
func agreesAny(b api.MouldBook, seen int, had []int) bool {
	return slices.ContainsFunc(had, func(set int) bool { return agrees(b, reading{seen, set}) })
}
