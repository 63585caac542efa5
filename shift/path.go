package shift

import (
	"cmp"
	"iter"
	"slices"

	"nacre/api"
)

// rest is where a hand is who is in no room.
const rest = -1

// Breathes returns the least and the most that is breathed on a path.
func Breathes(h api.ShiftHouse, path []int) (api.Span, api.Errno) {
	d, e := examine(h, path)
	if e != api.OK {
		return api.Span{}, e
	}
	return d.breathes(path), api.OK
}

// Safe returns what is known of whether a path is safe for a limit.
func Safe(h api.ShiftHouse, limit int, path []int) (api.ShiftWord, api.Errno) {
	d, e := examine(h, path)
	if e != api.OK || !isLimit(limit) {
		return 0, api.ErrArg
	}
	switch s := d.breathes(path); {
	case s.High <= limit:
		return api.ShiftSurely, api.OK
	case s.Low > limit:
		return api.ShiftNever, api.OK
	}
	return api.ShiftMay, api.OK
}

// Worst returns the worst path of a duty, and the most that is breathed on it.
func Worst(h api.ShiftHouse, duty []int) ([]int, int, api.Errno) {
	d, e := examine(h)
	if e != api.OK || !isDuty(h, duty) {
		return nil, 0, api.ErrArg
	}
	path := best(doing(h, duty), func(a, b []int) int { return cmp.Compare(d.most(b), d.most(a)) })
	return path, d.most(path), api.OK
}

// Best returns the best path of a duty, and the most that is breathed on it.
func Best(h api.ShiftHouse, duty []int) ([]int, int, api.Errno) {
	d, e := examine(h)
	if e != api.OK || !isDuty(h, duty) {
		return nil, 0, api.ErrArg
	}
	path := best(doing(h, duty), func(a, b []int) int { return cmp.Compare(d.most(a), d.most(b)) })
	return path, d.most(path), api.OK
}

// Any reports whether a duty is safe in any order, for a limit.
func Any(h api.ShiftHouse, limit int, duty []int) (bool, api.Errno) {
	_, most, e := Worst(h, duty)
	if e != api.OK || !isLimit(limit) {
		return false, api.ErrArg
	}
	return most <= limit, api.OK
}

// Where returns where a hand can have been, hour by hour, whose mask was seen to hold some dust.
func Where(h api.ShiftHouse, seen, off int) ([]int, api.Errno) {
	d, e := examine(h)
	if e != api.OK || !isLimit(seen) || !within(off, 0, api.ShiftOff) {
		return nil, api.ErrArg
	}
	where := make([]int, h.Hours)
	for path := range paths(h) {
		if s := d.breathes(path); s.Low <= seen+off && seen-off <= s.High {
			for hour, room := range path {
				where[hour] |= 1 << (room - rest)
			}
		}
	}
	// on each path, a hand is somewhere in each hour
	if where[0] == 0 {
		return nil, api.ErrNone
	}
	return where, api.OK
}

// follow goes along a path; it gives up if a list is none of the house.
func follow(h api.ShiftHouse, path []int) {
	if len(path) != h.Hours {
		panic(noPath{})
	}
	for _, room := range path {
		if !within(room, rest, len(h.Rooms)-1) {
			panic(noPath{})
		}
	}
}

// isDuty reports whether a list is a duty.
func isDuty(h api.ShiftHouse, duty []int) bool {
	return len(duty) == len(h.Rooms) && areAll(duty, func(hours int) bool { return within(hours, 0, h.Hours) }) && sum(duty...) <= h.Hours
}

// paths goes through all paths, in lexicographic order.
func paths(h api.ShiftHouse) iter.Seq[[]int] {
	return func(yield func([]int) bool) {
		var extend func(path []int) bool
		extend = func(path []int) bool {
			if len(path) == h.Hours {
				return yield(path)
			}
			for room := rest; room < len(h.Rooms); room++ {
				if !extend(append(slices.Clone(path), room)) {
					return false
				}
			}
			return true
		}
		extend(nil)
	}
}

// doing goes through the paths that do a duty, in lexicographic order.
func doing(h api.ShiftHouse, duty []int) iter.Seq[[]int] {
	return func(yield func([]int) bool) {
	search:
		for path := range paths(h) {
			for room, hours := range duty {
				if count(path, room) != hours {
					continue search
				}
			}
			if !yield(path) {
				return
			}
		}
	}
}

// breathes returns the least and the most that is breathed on a path.
func (d day) breathes(path []int) api.Span {
	return d.bounds(func(f failing) api.Span {
		ends := f.ends()
		return api.Span{Low: ends[0](path), High: ends[1](path)}
	})
}

// most returns the most that is breathed on a path.
func (d day) most(path []int) int { return d.breathes(path).High }

// ends returns what gives the least that is breathed on a path, and what gives the most.
func (f failing) ends() [2]func(path []int) int { return [2]func(path []int) int{f.least, f.most} }

func (f failing) least(path []int) int {
	var breathed []int
	for _, s := range f.met(path) {
		breathed = append(breathed, s.Low)
	}
	return sum(breathed...)
}

func (f failing) most(path []int) int {
	var breathed []int
	for _, s := range f.met(path) {
		breathed = append(breathed, s.High)
	}
	return sum(breathed...)
}

// met returns between which ends the dust is in the rooms of a path, each in its hour.
func (f failing) met(path []int) []api.Span {
	var met []api.Span
	for hour, room := range path {
		if room != rest {
			met = append(met, f.dust[room][hour])
		}
	}
	return met
}
