package shell_test

import (
	"reflect"
	"slices"
	"strings"
	"testing"

	"nacre/api"
	"nacre/shell"
)

// dice gives numbers that look random, and are the same each time.
type dice uint64

func (d *dice) upTo(n int) int {
	*d = *d*6364136223846793005 + 1442695040888963407
	return int(uint64(*d)>>33) % (n + 1)
}

func (d *dice) from(low, high int) int { return low + d.upTo(high-low) }

func span(low, high int) api.Span { return api.Span{Low: low, High: high} }

func place(row, column int) api.ShellPlace { return api.ShellPlace{Row: row, Column: column} }

func blank(row, column, tube int) api.ShellBlank {
	return api.ShellBlank{Row: row, Column: column, Tube: tube}
}

func gauge(row, column, seen, off int) api.ShellGauge {
	return api.ShellGauge{Row: row, Column: column, Seen: seen, Off: off}
}

func right(row, column int) api.ShellCrack { return api.ShellCrack{Row: row, Column: column} }

func down(row, column int) api.ShellCrack {
	return api.ShellCrack{Row: row, Column: column, Down: true}
}

// grid returns the cells of rows that are drawn as in a sheet.
func grid(rows ...string) [][]api.ShellCell {
	var cells [][]api.ShellCell
	for _, row := range rows {
		var line []api.ShellCell
		for _, mark := range row {
			switch mark {
			case '.':
				line = append(line, api.ShellOutside)
			case '#':
				line = append(line, api.ShellSolid)
			case 'o':
				line = append(line, api.ShellWorm)
			}
		}
		cells = append(cells, line)
	}
	return cells
}

// exampleMap returns the map m of the chapter.
func exampleMap() api.ShellMap {
	return api.ShellMap{
		Cells:  grid("###.", "#o##", ".###"),
		Taper:  2,
		Hidden: 1,
		Gauges: []api.ShellGauge{gauge(0, 0, 12, 1), gauge(0, 2, 9, 1), gauge(1, 3, 5, 1), gauge(2, 1, 10, 2), gauge(2, 3, 8, 1)},
		Cracks: []api.ShellCrack{right(0, 0)},
		Probed: []api.ShellPlace{place(0, 0), place(1, 2), place(1, 3), place(2, 2), place(2, 3)},
	}
}

// exampleWork returns the work w of the chapter.
func exampleWork() api.ShellWork {
	return api.ShellWork{Map: exampleMap(), Tubes: []api.ShellTube{{Width: 1, Need: 4, Worth: 2}, {Width: 2, Need: 4, Worth: 14}}, Kerf: 1}
}

// exampleCutting returns the cutting k of the chapter.
func exampleCutting() []api.ShellBlank {
	return []api.ShellBlank{blank(0, 0, 0), blank(0, 1, 0), blank(0, 2, 0), blank(1, 2, 1)}
}

// tornWork returns a work whose map is not possible: the cell to the right would be thicker.
func tornWork() api.ShellWork {
	m := api.ShellMap{Cells: grid("##"), Taper: 2, Hidden: 1, Gauges: []api.ShellGauge{gauge(0, 0, 4, 0), gauge(0, 1, 5, 0)}}
	return api.ShellWork{Map: m, Tubes: []api.ShellTube{{Width: 1, Need: 4, Worth: 2}}}
}

// drawn returns a map of some size with cells, cracks and probed places by chance, without gauges.
func drawn(d *dice, rows, columns int) api.ShellMap {
	m := api.ShellMap{Taper: d.upTo(3), Hidden: d.upTo(api.ShellHidden)}
	for range rows {
		var row []api.ShellCell
		for range columns {
			row = append(row, []api.ShellCell{api.ShellSolid, api.ShellSolid, api.ShellSolid, api.ShellSolid, api.ShellSolid, api.ShellSolid, api.ShellWorm, api.ShellOutside}[d.upTo(7)])
		}
		m.Cells = append(m.Cells, row)
	}
	for range d.upTo(3) {
		if c := right(d.upTo(rows-1), d.upTo(columns-1)); c.Column < columns-1 {
			m.Cracks = append(m.Cracks, c)
		}
		if c := down(d.upTo(rows-1), d.upTo(columns-1)); c.Row < rows-1 {
			m.Cracks = append(m.Cracks, c)
		}
	}
	for range d.upTo(5) {
		if p := place(d.upTo(rows-1), d.upTo(columns-1)); m.Cells[p.Row][p.Column] == api.ShellSolid {
			m.Probed = append(m.Probed, p)
		}
	}
	return m
}

// truthFor returns a truth of a map without gauges, by chance.
func truthFor(d *dice, m api.ShellMap) [][]int {
	var thick [][]int
	for _, cells := range m.Cells {
		row := make([]int, len(cells))
		for column, cell := range cells {
			switch {
			case cell == api.ShellOutside:
			case column == 0 || cells[column-1] == api.ShellOutside:
				row[column] = d.upTo(30)
			default:
				row[column] = max(0, row[column-1]-d.upTo(m.Taper))
			}
		}
		thick = append(thick, row)
	}
	return thick
}

// measured puts gauges to a map, at most as many as that, that agree with a truth.
func measured(d *dice, m *api.ShellMap, thick [][]int, many int) {
	for range many {
		row, column := d.upTo(len(m.Cells)-1), d.upTo(len(m.Cells[0])-1)
		if m.Cells[row][column] == api.ShellOutside {
			continue
		}
		off := d.upTo(4)
		seen := min(api.ShellThick, max(0, thick[row][column]+d.from(-off, off)))
		m.Gauges = append(m.Gauges, gauge(row, column, seen, off))
	}
}

// workOf returns a work with a map, and tubes by chance.
func workOf(d *dice, m api.ShellMap) api.ShellWork {
	w := api.ShellWork{Map: m, Kerf: d.upTo(api.ShellKerf)}
	for range d.from(1, api.ShellTubes) {
		w.Tubes = append(w.Tubes, api.ShellTube{Width: d.from(1, api.ShellWidth), Need: d.from(1, 8), Worth: d.from(1, 6)})
	}
	return w
}

// workBy returns a work with a map that is possible, by chance.
func workBy(d *dice, rows, columns int) api.ShellWork {
	m := drawn(d, rows, columns)
	measured(d, &m, truthFor(d, m), api.ShellGauges)
	return workOf(d, m)
}

// rowTruths returns all truths of a row, by trying all numbers.
func rowTruths(m api.ShellMap, row int) [][]int {
	var found [][]int
	cells := m.Cells[row]
	thick := make([]int, len(cells))
	var try func(column int)
	try = func(column int) {
		if column == len(cells) {
			found = append(found, slices.Clone(thick))
			return
		}
		for n := 0; n <= api.ShellThick; n++ {
			if canBeThick(m, row, column, thick, n) {
				thick[column] = n
				try(column + 1)
			}
		}
	}
	try(0)
	return found
}

// canBeThick reports whether a cell can be so thick, by the definition, if those to its left are.
func canBeThick(m api.ShellMap, row, column int, thick []int, n int) bool {
	cells := m.Cells[row]
	if cells[column] == api.ShellOutside {
		return n == 0
	}
	for _, g := range m.Gauges {
		if g.Row == row && g.Column == column && (n > g.Seen+g.Off || n < g.Seen-g.Off) {
			return false
		}
	}
	if column == 0 || cells[column-1] == api.ShellOutside {
		return true
	}
	return n <= thick[column-1] && thick[column-1]-n <= m.Taper
}

// leastTruth returns the least thickness of each cell, over all truths of a possible map.
func leastTruth(m api.ShellMap) [][]int {
	var thick [][]int
	for row := range m.Cells {
		truths := rowTruths(m, row)
		least := truths[0]
		for _, t := range truths {
			for column, n := range t {
				least[column] = min(least[column], n)
			}
		}
		thick = append(thick, least)
	}
	return thick
}

// allTruths returns all truths of a map, or nothing if there are too many.
func allTruths(m api.ShellMap, limit int) [][][]int {
	found := [][][]int{nil}
	for row := range m.Cells {
		truths := rowTruths(m, row)
		if len(truths)*len(found) > limit {
			return nil
		}
		var more [][][]int
		for _, before := range found {
			for _, t := range truths {
				more = append(more, append(slices.Clip(before), t))
			}
		}
		found = more
	}
	return found
}

// cellsOf returns the places of a blank's cells.
func cellsOf(w api.ShellWork, b api.ShellBlank) []api.ShellPlace {
	var found []api.ShellPlace
	for row := range w.Tubes[b.Tube].Width {
		for column := range w.Tubes[b.Tube].Width {
			found = append(found, place(b.Row+row, b.Column+column))
		}
	}
	return found
}

// slicesIn returns how many slices a blank gives in a truth, by the definition.
func slicesIn(w api.ShellWork, b api.ShellBlank, thick [][]int) int {
	least := api.ShellThick
	for _, p := range cellsOf(w, b) {
		least = min(least, thick[p.Row][p.Column])
	}
	return (least + w.Kerf) / (w.Tubes[b.Tube].Need + w.Kerf)
}

// worthIn returns what a cutting is worth in a truth, by the definition.
func worthIn(w api.ShellWork, cutting []api.ShellBlank, thick [][]int) int {
	total := 0
	for _, b := range cutting {
		total += slicesIn(w, b, thick) * w.Tubes[b.Tube].Worth
	}
	return total
}

// isBlank reports whether a blank can be cut, by the definition.
func isBlank(w api.ShellWork, b api.ShellBlank) bool {
	cells := cellsOf(w, b)
	for _, p := range cells {
		if p.Row < 0 || p.Row >= len(w.Map.Cells) || p.Column < 0 || p.Column >= len(w.Map.Cells[0]) || w.Map.Cells[p.Row][p.Column] != api.ShellSolid {
			return false
		}
	}
	for _, c := range w.Map.Cracks {
		other := place(c.Row, c.Column+1)
		if c.Down {
			other = place(c.Row+1, c.Column)
		}
		if slices.Contains(cells, place(c.Row, c.Column)) && slices.Contains(cells, other) {
			return false
		}
	}
	return true
}

// allBlanks returns all blanks that can be cut, in order.
func allBlanks(w api.ShellWork) []api.ShellBlank {
	var found []api.ShellBlank
	for row := range w.Map.Cells {
		for column := range w.Map.Cells[0] {
			for tube := range w.Tubes {
				if b := blank(row, column, tube); isBlank(w, b) {
					found = append(found, b)
				}
			}
		}
	}
	return found
}

// goTogether reports whether two blanks, the first one before the other one, can be in one cutting, by the definition.
func goTogether(w api.ShellWork, a, b api.ShellBlank) bool {
	wide, other := w.Tubes[a.Tube].Width, w.Tubes[b.Tube].Width
	if a.Row == b.Row && wide == other {
		return a.Column+wide <= b.Column
	}
	return a.Row+wide <= b.Row
}

// allCuttings returns all cuttings of some blanks in order, or nothing if there are too many.
func allCuttings(w api.ShellWork, blanks []api.ShellBlank, limit int) [][]api.ShellBlank {
	var found [][]api.ShellBlank
	var try func(from int, cutting []api.ShellBlank)
	try = func(from int, cutting []api.ShellBlank) {
		if len(found) > limit {
			return
		}
		found = append(found, slices.Clone(cutting))
		for i := from; i < len(blanks); i++ {
			if !slices.ContainsFunc(cutting, func(a api.ShellBlank) bool { return !goTogether(w, a, blanks[i]) }) {
				try(i+1, append(slices.Clone(cutting), blanks[i]))
			}
		}
	}
	try(0, nil)
	if len(found) > limit {
		return nil
	}
	return found
}

// bestOf returns the best one of some cuttings, and what it is worth in the least truth.
func bestOf(w api.ShellWork, cuttings [][]api.ShellBlank, least [][]int) ([]api.ShellBlank, int) {
	first, most := cuttings[0], worthIn(w, cuttings[0], least)
	for _, c := range cuttings[1:] {
		n := worthIn(w, c, least)
		if n > most || n == most && (len(c) < len(first) || len(c) == len(first) && comesFirst(c, first)) {
			first, most = c, n
		}
	}
	return first, most
}

// comesFirst reports whether a list of blanks comes before another one that is as long.
func comesFirst(a, b []api.ShellBlank) bool {
	for i := range a {
		x, y := a[i], b[i]
		switch {
		case x.Row != y.Row:
			return x.Row < y.Row
		case x.Column != y.Column:
			return x.Column < y.Column
		case x.Tube != y.Tube:
			return x.Tube < y.Tube
		}
	}
	return false
}

// sealed returns a sheet of lines, with the right CHECK.
func sealed(lines ...string) string {
	total := 0
	for _, line := range lines {
		for i, mark := range []byte(line) {
			total += int(mark) * (i + 1)
		}
	}
	rest := total % 101
	digits := string([]byte{byte('0' + rest/100), byte('0' + rest/10%10), byte('0' + rest%10)})
	return strings.Join(append(slices.Clone(lines), "end "+digits), "\n") + "\n"
}

// copyMap returns a map that shares nothing with another one.
func copyMap(m api.ShellMap) api.ShellMap {
	var cells [][]api.ShellCell
	for _, row := range m.Cells {
		cells = append(cells, slices.Clone(row))
	}
	m.Cells, m.Gauges, m.Cracks, m.Probed = cells, slices.Clone(m.Gauges), slices.Clone(m.Cracks), slices.Clone(m.Probed)
	return m
}

// sameMap reports whether two maps are equal; nil and empty lists are.
func sameMap(a, b api.ShellMap) bool {
	return slices.EqualFunc(a.Cells, b.Cells, func(x, y []api.ShellCell) bool { return slices.Equal(x, y) }) && a.Taper == b.Taper && a.Hidden == b.Hidden && slices.Equal(a.Gauges, b.Gauges) && slices.Equal(a.Cracks, b.Cracks) && slices.Equal(a.Probed, b.Probed)
}

// empty reports whether a result is a zero value, or an empty list.
func empty(x any) bool {
	v := reflect.ValueOf(x)
	if v.Kind() == reflect.Slice {
		return v.Len() == 0
	}
	return v.IsZero()
}

// wantError fails unless a call has an error, and zero values with it.
func wantError(t *testing.T, name string, got, want api.Errno, results ...any) {
	t.Helper()
	if got != want {
		t.Errorf("%s: error %d, want %d", name, got, want)
	}
	for _, x := range results {
		if want != api.OK && !empty(x) {
			t.Errorf("%s: %v with the error %d", name, x, got)
		}
	}
}

// pack returns the best cutting and what it is worth, of a work that has one.
func pack(t *testing.T, w api.ShellWork) ([]api.ShellBlank, int) {
	t.Helper()
	cutting, n, e := shell.Pack(w)
	if e != api.OK {
		t.Fatalf("Pack(%v): error %d", w, e)
	}
	return cutting, n
}
