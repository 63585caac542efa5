package river

import (
	"cmp"
	"iter"
	"math/bits"

	"nacre/api"
)

// mixes is a set of mixes: it has the bit n for the mix n. A mix is a set of shells of a sack: those that are of closed years.
type mixes int

// trial is a shell to test, and the tests that are needed if it is tested first.
type trial struct {
	shell, tests int
}

// tester looks for shells to test, to know whether a sack has at least many of closed years.
type tester struct {
	many int
	met  map[mixes]trial
}

// Tests returns the best shell to test, and the tests that are needed.
func Tests(b api.RiverBook, s api.RiverSack, many int) (int, int, api.Errno) {
	k := basket{b, s}
	if !k.isDefined() || !within(many, 0, api.RiverShells) {
		return 0, 0, api.ErrArg
	}
	m := k.mixes()
	if m == 0 {
		return 0, 0, api.ErrRule
	}
	t := tester{many, map[mixes]trial{}}
	if t.isKnown(m) {
		return 0, 0, api.ErrNone
	}
	first := t.first(m)
	return first.shell, first.tests, api.OK
}

// mixes returns the mixes that there are, over all truths of a sack.
func (k basket) mixes() mixes {
	var m mixes
	for from := range k.truths() {
		mix := 0
		for shell, o := range from {
			if isClosed(k.RiverBook, o) {
				mix |= 1 << shell
			}
		}
		m |= 1 << mix
	}
	return m
}

// each goes through the mixes of a set.
func (m mixes) each() iter.Seq[int] {
	return func(yield func(int) bool) {
		for mix := range 1 << api.RiverShells {
			if has(int(m), mix) && !yield(mix) {
				return
			}
		}
	}
}

// after returns the mixes that are left after a test of a shell.
func (m mixes) after(shell int, closed bool) mixes {
	var left mixes
	for mix := range m.each() {
		if has(mix, shell) == closed {
			left |= 1 << mix
		}
	}
	return left
}

// isKnown reports whether it is known of some mixes whether a sack has so many.
func (t tester) isKnown(m mixes) bool {
	var known knowledge = unmet{}
	for mix := range m.each() {
		known = known.after(bits.OnesCount(uint(mix)) >= t.many)
	}
	_, open := known.(unsure)
	return !open
}

// first returns the best shell to test first; if nothing must be tested, no tests are needed.
func (t tester) first(m mixes) trial {
	if found, met := t.met[m]; met {
		return found
	}
	var found trial
	if !t.isKnown(m) {
		found = best(t.trials(m), func(a, b trial) int { return cmp.Compare(a.tests, b.tests) })
	}
	t.met[m] = found
	return found
}

// trials goes through the shells of which a test can say either.
func (t tester) trials(m mixes) iter.Seq[trial] {
	return func(yield func(trial) bool) {
	search:
		for shell := range api.RiverShells {
			left := [2]mixes{m.after(shell, false), m.after(shell, true)}
			for _, said := range left {
				if said == 0 {
					continue search
				}
			}
			most := max(t.first(left[0]).tests, t.first(left[1]).tests)
			if !yield(trial{shell, most + 1}) {
				return
			}
		}
	}
}
