package drill

import (
	"cmp"
	"iter"
	"slices"

	"nacre/api"
)

// trial finds whether the holes of a machine that is off by a point do for something, and keeps what it found.
type trial struct {
	stops []api.DrillPoint
	do    func(holes []api.DrillPoint) bool
	met   map[api.DrillPoint]bool
}

// reset is stops in place of those of a machine.
type reset struct {
	stops []api.DrillPoint
	moves int
	way   int
}

// Sure returns what is known of whether a blank is good.
func Sure(c api.DrillMeasure, m api.DrillMachine, blank int) (api.DrillWord, api.Errno) {
	s, e := examine(m, isFor(c, m) && within(blank, 1, api.DrillBlanks))
	if e != api.OK {
		return 0, e
	}
	return goodness(c, m).word(s.at(blank)), api.OK
}

// Gauge returns the number up to which all blanks surely are good.
func Gauge(c api.DrillMeasure, m api.DrillMachine) (int, api.Errno) {
	s, e := examine(m, isFor(c, m))
	if e != api.OK {
		return 0, e
	}
	t := goodness(c, m)
	for before := range api.DrillBlanks {
		if t.word(s.at(before+1)) != api.DrillSurely {
			return before, api.OK
		}
	}
	return api.DrillBlanks, api.OK
}

// Reset returns the stops of the best reset, and how many it moves.
func Reset(c api.DrillMeasure, m api.DrillMachine, blank int) ([]api.DrillPoint, int, api.Errno) {
	s, e := examine(m, isFor(c, m) && within(blank, 1, api.DrillBlanks))
	if e != api.OK {
		return nil, 0, e
	}
	r, ok := best(s.resets(c, blank), compareResets)
	if !ok {
		return nil, 0, api.ErrNone
	}
	return r.stops, r.moves, api.OK
}

// isFor reports whether a measure is as defined, with as many holes as a machine has stops.
func isFor(c api.DrillMeasure, m api.DrillMachine) bool {
	return Check(c) == api.OK && len(c.Holes) == len(m.Stops)
}

// goodness finds whether the holes of a machine are good.
func goodness(c api.DrillMeasure, m api.DrillMachine) trial {
	good := func(holes []api.DrillPoint) bool {
		_, _, ok := match(c.Holes, c.Off, holes)
		return ok
	}
	return trial{m.Stops, good, map[api.DrillPoint]bool{}}
}

// does reports whether the holes do, if the machine is off by a point.
func (t trial) does(off api.DrillPoint) bool {
	is, known := t.met[off]
	if !known {
		is = t.do(moved(t.stops, off))
		t.met[off] = is
	}
	return is
}

// passing returns the points of a box by which the machine can be off so that the holes do.
func (t trial) passing(b box) []api.DrillPoint {
	var found []api.DrillPoint
	for off := range b.points() {
		if t.does(off) {
			found = append(found, off)
		}
	}
	return found
}

// word returns in which truths the holes do, if the machine can be off by all points of a box.
func (t trial) word(b box) api.DrillWord {
	some, all := false, true
	for off := range b.points() {
		does := t.does(off)
		some, all = some || does, all && does
		if some && !all {
			return api.DrillMay
		}
	}
	if all {
		return api.DrillSurely
	}
	return api.DrillNever
}

// resets goes through the best resets up to a blank, one for each turn and order with which a machine can be steady.
func (s studied) resets(c api.DrillMeasure, blank int) iter.Seq[reset] {
	offs := s.at(1)
	for before := range blank {
		offs = offs.with(s.at(before + 1))
	}
	return func(yield func(reset) bool) {
		// what undoes a turn is a turn, too: to turn the holes of the measure by each of them is to undo each
		for number := range turns {
			rooms, ok := roomsFor(c, turnOf(number), offs)
			if !ok {
				continue
			}
			for order := range orders(len(rooms), func(int, int) bool { return true }) {
				if !yield(s.reset(rooms, order)) {
					return
				}
			}
		}
	}
}

// roomsFor returns where the stop of each hole of a measure, turned, can be; false if there is no room for one.
func roomsFor(c api.DrillMeasure, t turn, offs box) ([]box, bool) {
	var rooms []box
	for _, hole := range c.Holes {
		p := turned(hole, t)
		var room box
		for i, n := range [2]int{p.X, p.Y} {
			bounds := api.Span{Low: n - c.Off - offs[i].Low, High: n + c.Off - offs[i].High}
			s, ok := narrow(bounds, around(0, api.DrillReach))
			if !ok {
				return nil, false
			}
			room[i] = s
		}
		rooms = append(rooms, room)
	}
	return rooms, true
}

// reset returns the reset by which each stop goes the least way to the room of its hole.
func (s studied) reset(rooms []box, order []int) reset {
	r := reset{stops: slices.Clone(s.Stops)}
	for hole, stop := range order {
		from := s.Stops[stop]
		to := rooms[hole].nearest(from)
		if to != from {
			r.moves++
		}
		r.way += distance(from.X, to.X) + distance(from.Y, to.Y)
		r.stops[stop] = to
	}
	return r
}

// compareResets returns which of two resets is better: a number below 0 if the first one is.
func compareResets(a, b reset) int {
	return cmp.Or(cmp.Compare(a.moves, b.moves), cmp.Compare(a.way, b.way), slices.CompareFunc(a.stops, b.stops, comparePoints))
}

// comparePoints compares two points, X first.
func comparePoints(p, q api.DrillPoint) int {
	return cmp.Or(cmp.Compare(p.X, q.X), cmp.Compare(p.Y, q.Y))
}

// distance returns by how much two numbers differ.
func distance(m, n int) int { return max(m-n, n-m) }
