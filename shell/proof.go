package shell

import (
	"slices"

	"nacre/api"
)

// Proof returns the plain proof, and the sum that it proves.
func Proof(w api.ShellWork) (api.ShellProof, int, api.Errno) {
	if Work(w) != api.OK {
		return api.ShellProof{}, 0, api.ErrArg
	}
	x, e := bind(w)
	if e != api.OK {
		return api.ShellProof{}, 0, e
	}
	p := api.ShellProof{Rows: steps(x.inRows()), Bands: bands(w)}
	for i, band := range p.Bands {
		p.Bands[i].Columns = steps(x.inColumns(band.Row, band.Width))
	}
	return p, sum(p.Rows...), api.OK
}

// Proves returns the sum that a proof proves.
func Proves(w api.ShellWork, p api.ShellProof) (int, api.Errno) {
	if Work(w) != api.OK || !isProof(w, p) {
		return 0, api.ErrArg
	}
	x, e := bind(w)
	if e != api.OK {
		return 0, e
	}
	for _, band := range p.Bands {
		if !x.covers(band, sum(p.Rows[band.Row:band.Row+band.Width]...)) {
			return 0, api.ErrNone
		}
	}
	return sum(p.Rows...), api.OK
}

// bands returns all bands that a work can have, by Row, then Width, without weights.
func bands(w api.ShellWork) []api.ShellBand {
	var found []api.ShellBand
	for row := range w.Map.Cells {
		for _, width := range widths(w) {
			if row+width <= len(w.Map.Cells) {
				found = append(found, api.ShellBand{Row: row, Width: width})
			}
		}
	}
	return found
}

// steps returns by how much each choice but the first one is worth more than the one before it.
func steps(choices []choice) []int {
	var found []int
	for i, c := range choices[1:] {
		found = append(found, c.worth-choices[i].worth)
	}
	return found
}

// isProof reports whether a proof has the rows, bands and columns of a work, with weights in their range.
func isProof(w api.ShellWork, p api.ShellProof) bool {
	if len(p.Rows) != len(w.Map.Cells) || !areWeights(p.Rows) {
		return false
	}
	return slices.EqualFunc(p.Bands, bands(w), func(a, b api.ShellBand) bool {
		return a.Row == b.Row && a.Width == b.Width && len(a.Columns) == len(w.Map.Cells[0]) && areWeights(a.Columns)
	})
}

// areWeights reports whether all numbers are in the range of weights.
func areWeights(numbers []int) bool {
	return !slices.ContainsFunc(numbers, func(n int) bool { return !within(n, 0, api.ShellWeight) })
}

// covers reports whether the columns of a band sum to no more than its rows, and to enough for each of its blanks.
func (x bounded) covers(band api.ShellBand, rows int) bool {
	if sum(band.Columns...) > rows {
		return false
	}
	for b := range x.inBand(band.Row, band.Width) {
		if sum(band.Columns[b.Column:b.Column+band.Width]...) < x.surely(b) {
			return false
		}
	}
	return true
}
