package shell

import (
	"slices"

	"nacre/api"
)

// Spoilt returns what a cutting is surely worth with holes at some places.
func Spoilt(w api.ShellWork, cutting []api.ShellBlank, holes []api.ShellPlace) (int, api.Errno) {
	if Work(w) != api.OK || !isCutting(w, cutting) || !canBeHoles(w.Map, holes) {
		return 0, api.ErrArg
	}
	x, e := bind(w)
	if e != api.OK {
		return 0, e
	}
	whole := slices.DeleteFunc(slices.Clone(cutting), func(b api.ShellBlank) bool {
		return slices.ContainsFunc(slices.Collect(places(w, b)), func(p api.ShellPlace) bool {
			return slices.Contains(holes, p)
		})
	})
	return x.worth(whole).Low, api.OK
}

// Sound returns what a cutting is worth wherever holes are.
func Sound(w api.ShellWork, cutting []api.ShellBlank) (int, api.Errno) {
	if Work(w) != api.OK || !isCutting(w, cutting) {
		return 0, api.ErrArg
	}
	x, e := bind(w)
	if e != api.OK {
		return 0, e
	}
	// blanks have no cell in common, so that each hole spoils one at most: the worst ones are those worth most
	risks := x.risks(cutting)
	slices.Sort(risks)
	lost := risks[max(0, len(risks)-w.Map.Hidden):]
	return x.worth(cutting).Low - sum(lost...), api.OK
}

// canBeHoles reports whether holes that were not seen can be at places.
func canBeHoles(m api.ShellMap, holes []api.ShellPlace) bool {
	return len(holes) <= m.Hidden && !slices.ContainsFunc(holes, func(p api.ShellPlace) bool { return !canBeHole(m, p) })
}

// canBeHole reports whether a hole that was not seen can be at a place.
func canBeHole(m api.ShellMap, p api.ShellPlace) bool {
	return cellAt(m, p) == api.ShellSolid && !slices.Contains(m.Probed, p)
}

// risks returns what each blank is surely worth that can have a hole.
func (x bounded) risks(cutting []api.ShellBlank) []int {
	var found []int
blanks:
	for _, b := range cutting {
		for p := range places(x.ShellWork, b) {
			if canBeHole(x.Map, p) {
				found = append(found, x.surely(b))
				continue blanks
			}
		}
	}
	return found
}
