package drill

import (
	"cmp"
	"slices"

	"nacre/api"
)

// sighting is where a machine can be off at a blank if a button agrees with it.
type sighting struct {
	blank int
	offs  []api.DrillPoint
}

// Could returns the blanks with which a button agrees in some truth.
func Could(m api.DrillMachine, b api.DrillButton) ([]int, api.Errno) {
	s, e := examine(m, isOf(b, m))
	if e != api.OK {
		return nil, e
	}
	return s.could(b), api.OK
}

// Who returns the machines that can have drilled a button.
func Who(l []api.DrillMachine, b api.DrillButton) ([]int, api.Errno) {
	if !within(len(l), 1, api.DrillMachines) {
		return nil, api.ErrArg
	}
	for _, m := range l {
		if !isMachine(m) || !isOf(b, m) {
			return nil, api.ErrArg
		}
	}
	var found []int
	for i, m := range l {
		s, e := examine(m, true)
		if e != api.OK {
			return nil, e
		}
		if len(s.could(b)) > 0 {
			found = append(found, i)
		}
	}
	return found, api.OK
}

// Together returns the first blanks with which buttons agree in one truth.
func Together(m api.DrillMachine, l []api.DrillButton) ([]int, api.Errno) {
	strange := slices.ContainsFunc(l, func(b api.DrillButton) bool { return !isOf(b, m) })
	s, e := examine(m, within(len(l), 1, api.DrillButtons) && !strange)
	if e != api.OK {
		return nil, e
	}
	blanks, ok := s.together(l)
	if !ok {
		return nil, api.ErrNone
	}
	return blanks, api.OK
}

// Proves returns between which bounds a machine is off at a blank, if a button agrees with another one.
func Proves(m api.DrillMachine, b api.DrillButton, at, blank int) (api.Span, api.Span, api.Errno) {
	s, e := examine(m, isOf(b, m) && within(at, 1, api.DrillBlanks) && within(blank, 0, api.DrillBlanks))
	if e != api.OK {
		return api.Span{}, api.Span{}, e
	}
	// nothing lies in it before the first point: if there is none, the courses give up
	nothing := api.Span{Low: api.DrillFar, High: -api.DrillFar}
	offs := box{nothing, nothing}
	for _, off := range agreement(m, b).passing(s.at(at)) {
		offs = offs.with(box{around(off.X, 0), around(off.Y, 0)})
	}
	var proved box
	e = attempt(func() {
		for i, along := range s.axes() {
			proved[i] = along().course(clue{at, offs[i]})[blank]
		}
	})
	if e != api.OK {
		return api.Span{}, api.Span{}, e
	}
	return proved[0], proved[1], api.OK
}

// isOf reports whether a button is as defined, with as many holes as a machine has stops.
func isOf(b api.DrillButton, m api.DrillMachine) bool {
	return arePoints(b.Holes, 2, api.DrillFar) && within(b.Err, 0, api.DrillErr) && len(b.Holes) == len(m.Stops)
}

// agreement finds whether a button agrees with the holes of a machine.
func agreement(m api.DrillMachine, b api.DrillButton) trial {
	agrees := func(holes []api.DrillPoint) bool {
		_, _, ok := match(holes, b.Err, b.Holes)
		return ok
	}
	return trial{m.Stops, agrees, map[api.DrillPoint]bool{}}
}

// sightings returns the sightings of a button, one for each blank that it can be.
func (s studied) sightings(b api.DrillButton) []sighting {
	var found []sighting
	t := agreement(s.DrillMachine, b)
	for before := range api.DrillBlanks {
		blank := before + 1
		if offs := t.passing(s.at(blank)); len(offs) > 0 {
			found = append(found, sighting{blank, offs})
		}
	}
	return found
}

// could returns the blanks with which a button agrees in some truth.
func (s studied) could(b api.DrillButton) []int {
	var blanks []int
	for _, x := range s.sightings(b) {
		blanks = append(blanks, x.blank)
	}
	return blanks
}

// together returns the first blanks with which buttons agree in one truth; false if there are none.
func (s studied) together(l []api.DrillButton) ([]int, bool) {
	var all [][]sighting
	for _, b := range l {
		all = append(all, s.sightings(b))
	}
	var picked []sighting
	var search func() bool
	search = func() bool {
		if !s.joins(picked) {
			return false
		}
		many := len(picked)
		if many == len(l) {
			return true
		}
		for _, x := range all[many] {
			picked = append(picked, x)
			if search() {
				return true
			}
			picked = picked[:many]
		}
		return false
	}
	ok := search()
	var blanks []int
	for _, x := range picked {
		blanks = append(blanks, x.blank)
	}
	return blanks, ok
}

// joins reports whether sightings of different blanks are all so in one truth.
func (s studied) joins(picked []sighting) bool {
	byBlank := slices.SortedFunc(slices.Values(picked), func(x, y sighting) int { return cmp.Compare(x.blank, y.blank) })
	for i, x := range byBlank {
		if i == 0 {
			continue
		}
		before := byBlank[i-1]
		if before.blank == x.blank {
			return false
		}
		byBlank[i].offs = s.reached(before, x)
		if len(byBlank[i].offs) == 0 {
			return false
		}
	}
	return true
}

// reached returns the points of a sighting to which a machine can come from one of those of an earlier one.
// The courses were narrowed forth and back, so that what lies in them and is joined by the wear is joined by a truth.
func (s studied) reached(from, to sighting) []api.DrillPoint {
	blanks := to.blank - from.blank
	var found []api.DrillPoint
	for _, q := range to.offs {
		comes := func(p api.DrillPoint) bool {
			return within(q.X-p.X, blanks*s.WearX.Low, blanks*s.WearX.High) && within(q.Y-p.Y, blanks*s.WearY.Low, blanks*s.WearY.High)
		}
		if slices.ContainsFunc(from.offs, comes) {
			found = append(found, q)
		}
	}
	return found
}
