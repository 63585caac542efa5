// Package shell is chapter 1: see shared/doc/01-shell.md.
package shell

import (
	"slices"

	"nacre/api"
)

// Check returns the error of a map.
func Check(m api.ShellMap) api.Errno {
	if !isGrid(m.Cells) || !within(m.Taper, 0, api.ShellTaper) || !within(m.Hidden, 0, api.ShellHidden) {
		return api.ErrArg
	}
	if len(m.Gauges) > api.ShellGauges || len(m.Cracks) > api.ShellCracks || len(m.Probed) > api.ShellProbes {
		return api.ErrArg
	}
	for _, g := range m.Gauges {
		if !isGauge(m, g) {
			return api.ErrArg
		}
	}
	for _, c := range m.Cracks {
		if cellAt(m, before(c)) == 0 || cellAt(m, beyond(c)) == 0 {
			return api.ErrArg
		}
	}
	for _, p := range m.Probed {
		if cellAt(m, p) != api.ShellSolid {
			return api.ErrArg
		}
	}
	return api.OK
}

// Fits reports whether some thickness of each cell is a truth.
func Fits(m api.ShellMap, thick [][]int) (bool, api.Errno) {
	if Check(m) != api.OK || !matches(m, thick) {
		return false, api.ErrArg
	}
	return isTruth(m, thick), api.OK
}

// Thick returns the least and the greatest thickness of each cell.
func Thick(m api.ShellMap) ([][]api.Span, api.Errno) {
	if Check(m) != api.OK {
		return nil, api.ErrArg
	}
	var spans [][]api.Span
	e := attempt(func() { spans = bound(m) })
	return spans, e
}

// isGrid reports whether cells are rows of the same length, of kinds that there are.
func isGrid(cells [][]api.ShellCell) bool {
	if !within(len(cells), 1, api.ShellRows) || !within(len(cells[0]), 1, api.ShellColumns) {
		return false
	}
	for _, row := range cells {
		if len(row) != len(cells[0]) {
			return false
		}
		for _, cell := range row {
			if !within(int(cell), int(api.ShellOutside), int(api.ShellWorm)) {
				return false
			}
		}
	}
	return true
}

// isGauge reports whether a gauge is as defined.
func isGauge(m api.ShellMap, g api.ShellGauge) bool {
	cell := cellAt(m, api.ShellPlace{Row: g.Row, Column: g.Column})
	return (cell == api.ShellSolid || cell == api.ShellWorm) && within(g.Seen, 0, api.ShellThick) && within(g.Off, 0, api.ShellOff)
}

// cellAt returns what is at a place, or 0 where the map has no cell.
func cellAt(m api.ShellMap, p api.ShellPlace) api.ShellCell {
	if !within(p.Row, 0, len(m.Cells)-1) || !within(p.Column, 0, len(m.Cells[p.Row])-1) {
		return 0
	}
	return m.Cells[p.Row][p.Column]
}

// before returns the place on the near side of a crack.
func before(c api.ShellCrack) api.ShellPlace {
	return api.ShellPlace{Row: c.Row, Column: c.Column}
}

// beyond returns the place on the far side of a crack.
func beyond(c api.ShellCrack) api.ShellPlace {
	if c.Down {
		return api.ShellPlace{Row: c.Row + 1, Column: c.Column}
	}
	return api.ShellPlace{Row: c.Row, Column: c.Column + 1}
}

// matches reports whether there is a number for each cell.
func matches(m api.ShellMap, thick [][]int) bool {
	return slices.EqualFunc(m.Cells, thick, func(cells []api.ShellCell, numbers []int) bool {
		return len(cells) == len(numbers)
	})
}

// isTruth reports whether numbers, one for each cell, are a truth.
func isTruth(m api.ShellMap, thick [][]int) bool {
	for row, cells := range m.Cells {
		if !tapers(cells, thick[row], m.Taper) {
			return false
		}
	}
	for _, g := range m.Gauges {
		if !within(thick[g.Row][g.Column], g.Seen-g.Off, g.Seen+g.Off) {
			return false
		}
	}
	return true
}

// tapers reports whether a row can be as thick as that, but for its gauges.
func tapers(cells []api.ShellCell, thick []int, taper int) bool {
	for column, cell := range cells {
		most := api.ShellThick
		if cell == api.ShellOutside {
			most = 0
		}
		if !within(thick[column], 0, most) {
			return false
		}
		if joined(cells, column) && !within(thick[column], thick[column-1]-taper, thick[column-1]) {
			return false
		}
	}
	return true
}

// joined reports whether neither a cell nor the one to its left is outside.
func joined(cells []api.ShellCell, column int) bool {
	return column > 0 && cells[column] != api.ShellOutside && cells[column-1] != api.ShellOutside
}

// bound returns the least and the greatest thickness of each cell; it gives up with a contradiction.
func bound(m api.ShellMap) [][]api.Span {
	spans := make([][]api.Span, len(m.Cells))
	for row, cells := range m.Cells {
		spans[row] = make([]api.Span, len(cells))
		for column, cell := range cells {
			if cell != api.ShellOutside {
				spans[row][column].High = api.ShellThick
			}
		}
	}
	for _, g := range m.Gauges {
		narrow(&spans[g.Row][g.Column], g.Seen-g.Off, g.Seen+g.Off)
	}
	for row, cells := range m.Cells {
		spread(cells, spans[row], m.Taper)
	}
	return spans
}

// spread narrows the cells of a row by their neighbors. A row is a chain: once to the right and once back is enough.
func spread(cells []api.ShellCell, spans []api.Span, taper int) {
	for column := range len(cells) {
		if joined(cells, column) {
			left := spans[column-1]
			narrow(&spans[column], left.Low-taper, left.High)
		}
	}
	for column := range slices.Backward(cells) {
		if joined(cells, column) {
			right := spans[column]
			narrow(&spans[column-1], right.Low, right.High+taper)
		}
	}
}

// narrow leaves of a span what is from low to high.
func narrow(s *api.Span, low, high int) {
	s.Low, s.High = max(s.Low, low), min(s.High, high)
	if s.Low > s.High {
		panic(contradiction{})
	}
}
