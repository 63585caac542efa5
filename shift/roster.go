package shift

import (
	"cmp"
	"iter"
	"math/bits"

	"nacre/api"
)

// crew finds rosters of a day: it has the paths that each hand can be given, and keeps the plans that it found.
type crew struct {
	day
	paths [][][]int
	plans map[task]plan
}

// task is the sets of rooms that the hands from one on must be in, hour by hour.
type task struct {
	hand  int
	rooms [api.ShiftHours]int
}

// plan is a path for the first hand of a task, what is left for the others, and how many of them all are not at rest.
type plan struct {
	path  []int
	left  task
	hands int
}

// Staffs reports whether a roster is kept.
func Staffs(h api.ShiftHouse, roster [][]int) (bool, api.Errno) {
	d, e := examine(h, roster...)
	if e != api.OK || !isRoster(h, roster) {
		return false, api.ErrArg
	}
	for hand, path := range roster {
		if !d.isFor(hand, path) {
			return false, api.OK
		}
	}
	return true, api.OK
}

// Roster returns the best roster, and how many hands it has.
func Roster(h api.ShiftHouse) ([][]int, int, api.Errno) {
	d, e := examine(h)
	if e != api.OK {
		return nil, 0, e
	}
	c := d.crew()
	p := c.plan(taskOf(h))
	if p.hands > len(h.Hands) {
		return nil, 0, api.ErrNone
	}
	hands := p.hands
	var roster [][]int
	for range len(h.Hands) {
		roster = append(roster, p.path)
		p = c.plan(p.left)
	}
	return roster, hands, api.OK
}

// Danger returns the first danger of a roster.
func Danger(h api.ShiftHouse, roster [][]int) (api.ShiftDanger, api.Errno) {
	d, e := examine(h, roster...)
	if e != api.OK || !isRoster(h, roster) {
		return api.ShiftDanger{}, api.ErrArg
	}
	var first api.ShiftDanger
	e = api.ErrNone
search:
	for hand, path := range roster {
		for _, x := range failures(h) {
			if d.found[x.told()].most(path) > h.Hands[hand].Limit {
				first, e = api.ShiftDanger{Hand: hand, Failure: x.told()}, api.OK
				break search
			}
		}
	}
	return first, e
}

// isRoster reports whether paths are a roster.
func isRoster(h api.ShiftHouse, paths [][]int) bool {
	if len(paths) != len(h.Hands) {
		return false
	}
	t := taskOf(h)
	for _, path := range paths {
		left, ok := t.after(path)
		if !ok {
			return false
		}
		t = left
	}
	return t.needs() == 0
}

// isFor reports whether a hand may go on a path.
func (d day) isFor(hand int, path []int) bool {
	x := d.Hands[hand]
	return d.Hours-count(path, rest) <= x.Most && d.most(path) <= x.Limit
}

// crew returns the crew of a day.
func (d day) crew() crew {
	c := crew{day: d, plans: map[task]plan{}}
	for hand := range len(d.Hands) {
		var fine [][]int
		for path := range paths(d.ShiftHouse) {
			if d.isFor(hand, path) {
				fine = append(fine, path)
			}
		}
		c.paths = append(c.paths, fine)
	}
	return c
}

// plan returns the first plan of a task with the fewest hands; it has more hands than there are if the task cannot be done.
func (c crew) plan(t task) plan {
	switch hands := len(c.Hands) - t.hand; {
	case t.needs() > hands:
		return plan{hands: len(c.Hands) + 1}
	case hands == 0:
		return plan{}
	}
	p, ok := c.plans[t]
	if !ok {
		p = best(c.options(t), func(a, b plan) int { return cmp.Compare(a.hands, b.hands) })
		c.plans[t] = p
	}
	return p
}

// options goes through the plans of a task in the order of their paths, with the best plan of what is left for each.
func (c crew) options(t task) iter.Seq[plan] {
	return func(yield func(plan) bool) {
		for _, path := range c.paths[t.hand] {
			left, ok := t.after(path)
			if !ok {
				continue
			}
			hands := c.plan(left).hands
			if count(path, rest) < len(path) {
				hands++
			}
			if !yield(plan{path, left, hands}) {
				return
			}
		}
	}
}

// taskOf returns the task of all hands of a house.
func taskOf(h api.ShiftHouse) task {
	var t task
	copy(t.rooms[:], h.Open)
	return t
}

// after returns what is left of a task for the other hands if the first one goes on a path; false if that is in a room that the task has not.
func (t task) after(path []int) (task, bool) {
	t.hand++
	for hour, room := range path {
		if room == rest {
			continue
		}
		if !has(t.rooms[hour], room) {
			return task{}, false
		}
		t.rooms[hour] &^= 1 << room
	}
	return t, true
}

// needs returns how many hands a task needs at least: one for each of its rooms, in some hour.
func (t task) needs() int {
	most := 0
	for _, set := range t.rooms {
		most = max(most, bits.OnesCount(uint(set)))
	}
	return most
}
