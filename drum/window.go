package drum

import (
	"cmp"
	"iter"
	"slices"

	"nacre/api"
)

// finder finds windows of sets of batches: sums of 2 to the power of each batch. It keeps those that it found.
type finder struct {
	choice
	batches []api.DrumBatch
	found   map[int]api.Span
}

// Window returns the window of all batches.
func Window(d api.DrumDrum) (api.Span, api.Errno) {
	f, e := findIn(d, true)
	if e != api.OK {
		return api.Span{}, e
	}
	w := f.together(f.all())
	if isEmpty(w) {
		return api.Span{}, api.ErrNone
	}
	return w, api.OK
}

// Named returns the batches that must be named.
func Named(d api.DrumDrum) ([]int, api.Errno) {
	f, e := findIn(d, true)
	if e != api.OK {
		return nil, e
	}
	enough := f.lists(func(set int) bool { return f.goes(f.all() &^ set) })
	return best(enough, func(a, b []int) int {
		return cmp.Or(cmp.Compare(len(a), len(b)), slices.Compare(a, b))
	}), api.OK
}

// Sorts reports whether a list is a sorting.
func Sorts(d api.DrumDrum, sorting []int) (bool, api.Errno) {
	f, e := findIn(d, len(sorting) == len(d.Batches) && areUpTo(len(d.Batches)-1, sorting...))
	if e != api.OK {
		return false, e
	}
	for s := range f.sortings() {
		if slices.Equal(s, sorting) {
			return true, api.OK
		}
	}
	return false, api.OK
}

// Sort returns the best sorting, and how many runs it has.
func Sort(d api.DrumDrum) ([]int, int, api.Errno) {
	f, e := findIn(d, true)
	if e != api.OK {
		return nil, 0, e
	}
	if !f.allGo() {
		return nil, 0, api.ErrNone
	}
	sorting := best(f.sortings(), func(a, b []int) int { return cmp.Compare(slices.Max(a), slices.Max(b)) })
	return sorting, slices.Max(sorting) + 1, api.OK
}

// Apart returns the longest list of batches that are apart.
func Apart(d api.DrumDrum) ([]int, api.Errno) {
	f, e := findIn(d, true)
	if e != api.OK {
		return nil, e
	}
	if !f.allGo() {
		return nil, api.ErrNone
	}
	return best(f.lists(f.areApart), func(a, b []int) int {
		return cmp.Or(cmp.Compare(len(b), len(a)), slices.Compare(a, b))
	}), api.OK
}

// Top returns the least number that must be put in before some hour.
func Top(d api.DrumDrum, hour, by int) (int, api.Errno) {
	_, e := examine(d, within(hour, 0, d.Hours-1) && within(by, hour+1, d.Hours))
	if e != api.OK {
		return 0, e
	}
	if slices.ContainsFunc(d.Strips, func(s api.DrumStrip) bool { return s.Hour >= hour }) {
		return 0, api.ErrRule
	}
	// the argument is not to be changed
	d.Adds = slices.Clone(d.Adds)
	for n := range api.DrumAdd + 1 {
		d.Adds[hour] = n
		if w, e := Window(d); e == api.OK && lies(by, w) {
			return n, api.OK
		}
	}
	return 0, api.ErrNone
}

// findIn returns the finder of a drum; ErrArg if it is not as defined, or what else is given is not fine.
func findIn(d api.DrumDrum, fine bool) (finder, api.Errno) {
	c, e := examine(d, fine)
	if e != api.OK {
		return finder{}, e
	}
	return finder{c, d.Batches, map[int]api.Span{}}, api.OK
}

// all returns the set of all batches.
func (f finder) all() int { return 1<<len(f.batches) - 1 }

// together returns the hours that the windows of a set of batches have in common; its end is less than its beginning if there are none.
func (f finder) together(set int) api.Span {
	if w, ok := f.found[set]; ok {
		return w
	}
	w := api.Span{High: f.choice[0].Hours}
	if batches := f.members(set); len(batches) > 0 {
		first := batches[0]
		w = common(f.window(f.batches[first]), f.together(set&^(1<<first)))
	}
	f.found[set] = w
	return w
}

// goes reports whether a set of batches together has a window, or there are none in it.
func (f finder) goes(set int) bool { return !isEmpty(f.together(set)) }

// allGo reports whether each batch has a window.
func (f finder) allGo() bool {
	for batch := range f.batches {
		if !f.goes(1 << batch) {
			return false
		}
	}
	return true
}

// areApart reports whether no two of a set of batches together have a window.
func (f finder) areApart(set int) bool {
	batches := f.members(set)
	for i, a := range batches {
		for _, b := range batches[:i] {
			if f.goes(1<<a | 1<<b) {
				return false
			}
		}
	}
	return true
}

// members returns the batches of a set, in increasing order.
func (f finder) members(set int) []int {
	var batches []int
	for batch := range f.batches {
		if set>>batch&1 == 1 {
			batches = append(batches, batch)
		}
	}
	return batches
}

// lists goes through the lists of batches of all sets that are fine.
func (f finder) lists(fine func(set int) bool) iter.Seq[[]int] {
	return func(yield func([]int) bool) {
		for set := range f.all() + 1 {
			if fine(set) && !yield(f.members(set)) {
				return
			}
		}
	}
}

// sortings goes through all sortings, in lexicographic order.
func (f finder) sortings() iter.Seq[[]int] {
	return func(yield func([]int) bool) {
		var extend func(sorting, runs []int) bool
		// runs are the sets of batches of each run so far
		extend = func(sorting, runs []int) bool {
			batch := len(sorting)
			if batch == len(f.batches) {
				return yield(sorting)
			}
			for run := range len(runs) + 1 {
				more := slices.Clone(runs)
				if run == len(runs) {
					more = append(more, 0)
				}
				more[run] |= 1 << batch
				if f.goes(more[run]) && !extend(append(slices.Clone(sorting), run), more) {
					return false
				}
			}
			return true
		}
		extend(nil, nil)
	}
}
