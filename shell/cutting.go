package shell

import (
	"cmp"
	"iter"
	"slices"

	"nacre/api"
)

// bounded is a work whose cells were bounded.
type bounded struct {
	api.ShellWork
	spans [][]api.Span
}

// choice is a cutting with what it is surely worth.
type choice struct {
	blanks []api.ShellBlank
	worth  int
}

// Work returns the error of a work.
func Work(w api.ShellWork) api.Errno {
	if Check(w.Map) != api.OK || !within(len(w.Tubes), 1, api.ShellTubes) || !within(w.Kerf, 0, api.ShellKerf) {
		return api.ErrArg
	}
	for _, t := range w.Tubes {
		if !within(t.Width, 1, api.ShellWidth) || !within(t.Need, 1, api.ShellThick) || !within(t.Worth, 1, api.ShellWorth) {
			return api.ErrArg
		}
	}
	return api.OK
}

// Gives returns the fewest and the most slices that a blank gives.
func Gives(w api.ShellWork, b api.ShellBlank) (api.Span, api.Errno) {
	if Work(w) != api.OK || !hasTube(w, b) {
		return api.Span{}, api.ErrArg
	}
	x, e := bind(w)
	if e != api.OK {
		return api.Span{}, e
	}
	if !canBeCut(w, b) {
		return api.Span{}, api.ErrNone
	}
	return x.gives(b), api.OK
}

// Worth returns the least and the most that a cutting is worth.
func Worth(w api.ShellWork, cutting []api.ShellBlank) (api.Span, api.Errno) {
	if Work(w) != api.OK || !isCutting(w, cutting) {
		return api.Span{}, api.ErrArg
	}
	x, e := bind(w)
	if e != api.OK {
		return api.Span{}, e
	}
	return x.worth(cutting), api.OK
}

// Run returns what a cutting is worth in a truth.
func Run(w api.ShellWork, cutting []api.ShellBlank, thick [][]int) (int, api.Errno) {
	if Work(w) != api.OK || !isCutting(w, cutting) || !matches(w.Map, thick) || !isTruth(w.Map, thick) {
		return 0, api.ErrArg
	}
	x := bounded{w, exactly(thick)}
	return x.worth(cutting).Low, api.OK
}

// Pack returns the best cutting, and what it is surely worth.
func Pack(w api.ShellWork) ([]api.ShellBlank, int, api.Errno) {
	if Work(w) != api.OK {
		return nil, 0, api.ErrArg
	}
	x, e := bind(w)
	if e != api.OK {
		return nil, 0, e
	}
	c := x.inRows()[len(w.Map.Cells)]
	return c.blanks, c.worth, api.OK
}

// bind returns a work with its bounds.
func bind(w api.ShellWork) (bounded, api.Errno) {
	x := bounded{ShellWork: w}
	e := attempt(func() { x.spans = bound(w.Map) })
	return x, e
}

// exactly returns the bounds of cells of which the thickness is known.
func exactly(thick [][]int) [][]api.Span {
	spans := make([][]api.Span, len(thick))
	for row, numbers := range thick {
		for _, n := range numbers {
			spans[row] = append(spans[row], api.Span{Low: n, High: n})
		}
	}
	return spans
}

// hasTube reports whether there is the tube of a blank.
func hasTube(w api.ShellWork, b api.ShellBlank) bool { return within(b.Tube, 0, len(w.Tubes)-1) }

// places goes through the cells of a blank.
func places(w api.ShellWork, b api.ShellBlank) iter.Seq[api.ShellPlace] {
	return func(yield func(api.ShellPlace) bool) {
		width := w.Tubes[b.Tube].Width
		for row := range width {
			for column := range width {
				if !yield(api.ShellPlace{Row: b.Row + row, Column: b.Column + column}) {
					return
				}
			}
		}
	}
}

// canBeCut reports whether a blank of a tube that there is can be cut.
func canBeCut(w api.ShellWork, b api.ShellBlank) bool {
	var cells []api.ShellPlace
	for p := range places(w, b) {
		if cellAt(w.Map, p) != api.ShellSolid {
			return false
		}
		cells = append(cells, p)
	}
	return !slices.ContainsFunc(w.Map.Cracks, func(c api.ShellCrack) bool {
		return slices.Contains(cells, before(c)) && slices.Contains(cells, beyond(c))
	})
}

// isCutting reports whether blanks are a cutting. It looks at neighbors only: in order, what does not meet the blank before it meets none.
func isCutting(w api.ShellWork, cutting []api.ShellBlank) bool {
	for i, b := range cutting {
		if !hasTube(w, b) || !canBeCut(w, b) {
			return false
		}
		if i > 0 && !follows(w, cutting[i-1], b) {
			return false
		}
	}
	return true
}

// follows reports whether a blank is right of another one in its band, or in a band below it.
func follows(w api.ShellWork, a, b api.ShellBlank) bool {
	width := w.Tubes[a.Tube].Width
	if a.Row == b.Row {
		return w.Tubes[b.Tube].Width == width && b.Column >= a.Column+width
	}
	return b.Row >= a.Row+width
}

// low returns how thick a cell is at least.
func (x bounded) low(p api.ShellPlace) int { return x.spans[p.Row][p.Column].Low }

// high returns how thick a cell is at most.
func (x bounded) high(p api.ShellPlace) int { return x.spans[p.Row][p.Column].High }

// gives returns the fewest and the most slices of a blank. All least thicknesses together are a truth, and so are all greatest ones.
func (x bounded) gives(b api.ShellBlank) api.Span {
	var many [2]int
	need := x.Tubes[b.Tube].Need
	for i, end := range [...]func(api.ShellPlace) int{x.low, x.high} {
		thick := api.ShellThick
		for p := range places(x.ShellWork, b) {
			thick = min(thick, end(p))
		}
		many[i] = (thick + x.Kerf) / (need + x.Kerf)
	}
	return api.Span{Low: many[0], High: many[1]}
}

// worth returns the least and the most that a cutting is worth.
func (x bounded) worth(cutting []api.ShellBlank) api.Span {
	var least, most []int
	for _, b := range cutting {
		many, each := x.gives(b), x.Tubes[b.Tube].Worth
		least = append(least, many.Low*each)
		most = append(most, many.High*each)
	}
	return api.Span{Low: sum(least...), High: sum(most...)}
}

// surely returns what a blank is surely worth.
func (x bounded) surely(b api.ShellBlank) int { return x.gives(b).Low * x.Tubes[b.Tube].Worth }

// widths returns the widths of all tubes, each one once, in order.
func widths(w api.ShellWork) []int {
	var found []int
	for _, t := range w.Tubes {
		found = append(found, t.Width)
	}
	slices.Sort(found)
	return slices.Compact(found)
}

// inBand goes through the blanks of a band that can be cut, by Column, then Tube.
func (x bounded) inBand(row, width int) iter.Seq[api.ShellBlank] {
	return func(yield func(api.ShellBlank) bool) {
		for column := range x.Map.Cells[row] {
			for tube, t := range x.Tubes {
				b := api.ShellBlank{Row: row, Column: column, Tube: tube}
				if t.Width == width && canBeCut(x.ShellWork, b) && !yield(b) {
					return
				}
			}
		}
	}
}

// inColumns returns, for each number of columns from 0 on, the best cutting with blanks of a band alone that are in the first ones.
func (x bounded) inColumns(row, width int) []choice {
	blanks := slices.Collect(x.inBand(row, width))
	found := []choice{{}}
	for column := range len(x.Map.Cells[row]) {
		end := column + 1
		var more []choice
		for _, b := range blanks {
			if b.Column+width == end {
				more = append(more, join(found[b.Column], choice{[]api.ShellBlank{b}, x.surely(b)}))
			}
		}
		found = append(found, best(compareChoices, found[column], more...))
	}
	return found
}

// inRows returns, for each number of rows from 0 on, the best cutting with blanks that are in the first ones.
func (x bounded) inRows() []choice {
	found := []choice{{}}
	columns := len(x.Map.Cells[0])
	var search func(rows int) choice
	search = func(rows int) choice {
		if rows < len(found) {
			return found[rows]
		}
		without := search(rows - 1)
		var more []choice
		for _, width := range widths(x.ShellWork) {
			if row := rows - width; row >= 0 {
				more = append(more, join(search(row), x.inColumns(row, width)[columns]))
			}
		}
		c := best(compareChoices, without, more...)
		// the search without this row has found all choices before this one
		found = append(found, c)
		return c
	}
	search(len(x.Map.Cells))
	return found
}

// join returns the blanks of one cutting and those of another one that come after them.
func join(a, b choice) choice {
	return choice{slices.Concat(a.blanks, b.blanks), sum(a.worth, b.worth)}
}

// compareChoices puts the better one of two cuttings first.
func compareChoices(a, b choice) int {
	return cmp.Or(cmp.Compare(b.worth, a.worth), cmp.Compare(len(a.blanks), len(b.blanks)), slices.CompareFunc(a.blanks, b.blanks, compareBlanks))
}

// compareBlanks compares blanks by Row, then Column, then Tube.
func compareBlanks(a, b api.ShellBlank) int {
	return cmp.Or(cmp.Compare(a.Row, b.Row), cmp.Compare(a.Column, b.Column), cmp.Compare(a.Tube, b.Tube))
}
