package shell_test

import (
	"math"
	"reflect"
	"slices"
	"testing"

	"nacre/api"
	"nacre/shell"
)

// badMaps returns changes after which the chapter's map is not as defined, by what is wrong.
func badMaps() map[string]func(*api.ShellMap) {
	return map[string]func(*api.ShellMap){
		"no rows":             func(m *api.ShellMap) { m.Cells = nil },
		"empty rows":          func(m *api.ShellMap) { *m = api.ShellMap{Cells: make([][]api.ShellCell, 3)} },
		"7 rows":              func(m *api.ShellMap) { m.Cells = append(m.Cells, grid("....", "....", "....", "....")...) },
		"9 columns":           func(m *api.ShellMap) { *m = api.ShellMap{Cells: grid("#########")} },
		"a short row":         func(m *api.ShellMap) { m.Cells[1] = m.Cells[1][:3] },
		"a long row":          func(m *api.ShellMap) { m.Cells[2] = append(m.Cells[2], api.ShellSolid) },
		"cell 0":              func(m *api.ShellMap) { m.Cells[1][1] = 0 },
		"cell 4":              func(m *api.ShellMap) { m.Cells[1][1] = 4 },
		"cell -1":             func(m *api.ShellMap) { m.Cells[1][1] = -1 },
		"taper -1":            func(m *api.ShellMap) { m.Taper = -1 },
		"taper 10":            func(m *api.ShellMap) { m.Taper = 10 },
		"hidden -1":           func(m *api.ShellMap) { m.Hidden = -1 },
		"hidden 4":            func(m *api.ShellMap) { m.Hidden = 4 },
		"9 gauges":            func(m *api.ShellMap) { m.Gauges = slices.Repeat(m.Gauges[:1], 9) },
		"gauge outside":       func(m *api.ShellMap) { m.Gauges[0] = gauge(0, 3, 5, 1) },
		"gauge row -1":        func(m *api.ShellMap) { m.Gauges[4].Row = -1 },
		"gauge row 3":         func(m *api.ShellMap) { m.Gauges[4].Row = 3 },
		"gauge column -1":     func(m *api.ShellMap) { m.Gauges[4].Column = -1 },
		"gauge column 4":      func(m *api.ShellMap) { m.Gauges[4].Column = 4 },
		"gauge seen -1":       func(m *api.ShellMap) { m.Gauges[4].Seen = -1 },
		"gauge seen 61":       func(m *api.ShellMap) { m.Gauges[4].Seen = 61 },
		"gauge off -1":        func(m *api.ShellMap) { m.Gauges[4].Off = -1 },
		"gauge off 10":        func(m *api.ShellMap) { m.Gauges[4].Off = 10 },
		"9 cracks":            func(m *api.ShellMap) { m.Cracks = slices.Repeat(m.Cracks, 9) },
		"crack at the edge":   func(m *api.ShellMap) { m.Cracks[0] = right(0, 3) },
		"crack at the bottom": func(m *api.ShellMap) { m.Cracks[0] = down(2, 0) },
		"crack from row -1":   func(m *api.ShellMap) { m.Cracks[0] = down(-1, 0) },
		"crack from column -1": func(m *api.ShellMap) {
			m.Cracks[0] = right(0, -1)
		},
		"crack at row 3":    func(m *api.ShellMap) { m.Cracks[0] = right(3, 0) },
		"crack at column 4": func(m *api.ShellMap) { m.Cracks[0] = down(0, 4) },
		"crack far away":    func(m *api.ShellMap) { m.Cracks[0] = right(0, math.MaxInt) },
		"13 probes":         func(m *api.ShellMap) { m.Probed = slices.Repeat(m.Probed[:1], 13) },
		"probe outside":     func(m *api.ShellMap) { m.Probed[4] = place(0, 3) },
		"probe in a worm":   func(m *api.ShellMap) { m.Probed[4] = place(1, 1) },
		"probe row 3":       func(m *api.ShellMap) { m.Probed[4] = place(3, 2) },
		"probe column -1":   func(m *api.ShellMap) { m.Probed[4] = place(1, -1) },
	}
}

// P1.1: Check returns ErrArg for a map that is not as defined, or OK.
func TestCheck(t *testing.T) {
	for name, change := range badMaps() {
		m := exampleMap()
		change(&m)
		wantError(t, name, shell.Check(m), api.ErrArg)
	}
	for name, change := range map[string]func(*api.ShellMap){
		"as it is":        func(*api.ShellMap) {},
		"one cell":        func(m *api.ShellMap) { *m = api.ShellMap{Cells: grid("#")} },
		"all outside":     func(m *api.ShellMap) { *m = api.ShellMap{Cells: grid("..", "..")} },
		"as large as can": func(m *api.ShellMap) { *m = api.ShellMap{Cells: slices.Repeat(grid("########"), 6)} },
		"taper 9":         func(m *api.ShellMap) { m.Taper = 9 },
		"taper 0":         func(m *api.ShellMap) { m.Taper = 0 },
		"hidden 3":        func(m *api.ShellMap) { m.Hidden = 3 },
		"hidden 0":        func(m *api.ShellMap) { m.Hidden = 0 },
		"no lists":        func(m *api.ShellMap) { m.Gauges, m.Cracks, m.Probed = nil, nil, nil },
		"gauges at ends":  func(m *api.ShellMap) { m.Gauges = []api.ShellGauge{gauge(0, 0, 0, 0), gauge(2, 3, 60, 9)} },
		"gauge in a worm": func(m *api.ShellMap) { m.Gauges = []api.ShellGauge{gauge(1, 1, 5, 1)} },
		"8 gauges":        func(m *api.ShellMap) { m.Gauges = slices.Repeat(m.Gauges[:1], 8) },
		"8 cracks":        func(m *api.ShellMap) { m.Cracks = slices.Repeat(m.Cracks, 8) },
		"12 probes":       func(m *api.ShellMap) { m.Probed = slices.Repeat(m.Probed[:1], 12) },
		"cracks at edges": func(m *api.ShellMap) { m.Cracks = []api.ShellCrack{right(2, 2), down(1, 3)} },
		"crack outside":   func(m *api.ShellMap) { m.Cracks = []api.ShellCrack{right(0, 2), down(0, 3)} },
		"torn":            func(m *api.ShellMap) { *m = tornWork().Map },
	} {
		m := exampleMap()
		change(&m)
		wantError(t, name, shell.Check(m), api.OK)
	}
}

// P1.1: Fits reports whether some thickness of each cell is a truth.
func TestFits(t *testing.T) {
	truth := func() [][]int { return [][]int{{12, 10, 9, 0}, {8, 7, 6, 5}, {0, 10, 9, 8}} }
	for name, x := range map[string]struct {
		change func([][]int)
		want   bool
	}{
		"a truth":               {func([][]int) {}, true},
		"all least":             {func(x [][]int) { x[0], x[1], x[2] = []int{11, 9, 8, 0}, []int{4, 4, 4, 4}, []int{0, 8, 7, 7} }, true},
		"all greatest":          {func(x [][]int) { x[0], x[1], x[2] = []int{13, 12, 10, 0}, []int{12, 10, 8, 6}, []int{0, 12, 11, 9} }, true},
		"thicker to the right":  {func(x [][]int) { x[1][1] = 9 }, false},
		"thinner by more":       {func(x [][]int) { x[1][0] = 10 }, false},
		"as thin as the taper":  {func(x [][]int) { x[1][0] = 9 }, true},
		"beyond a gauge":        {func(x [][]int) { x[0] = []int{14, 12, 10, 0} }, false},
		"below a gauge":         {func(x [][]int) { x[0] = []int{10, 9, 8, 0} }, false},
		"thick outside":         {func(x [][]int) { x[0][3] = 1 }, false},
		"thin outside":          {func(x [][]int) { x[2][0] = -1 }, false},
		"far off":               {func(x [][]int) { x[1][1] = math.MinInt }, false},
		"far off to the right":  {func(x [][]int) { x[1][3] = math.MaxInt }, false},
		"far off from a number": {func(x [][]int) { x[2][3] = math.MinInt }, false},
	} {
		thick := truth()
		x.change(thick)
		is, e := shell.Fits(exampleMap(), thick)
		if is != x.want || e != api.OK {
			t.Errorf("%s: %v, error %d", name, is, e)
		}
	}
	bare := api.ShellMap{Cells: grid("##"), Taper: 9}
	for _, x := range []struct {
		thick []int
		want  bool
	}{{[]int{60, 60}, true}, {[]int{61, 60}, false}, {[]int{60, 51}, true}, {[]int{60, 50}, false}, {[]int{0, 0}, true}, {[]int{0, -1}, false}} {
		if is, e := shell.Fits(bare, [][]int{x.thick}); is != x.want || e != api.OK {
			t.Errorf("%v: %v, error %d", x.thick, is, e)
		}
	}
	if is, e := shell.Fits(tornWork().Map, [][]int{{5, 5}}); is || e != api.OK {
		t.Errorf("a map that is not possible has a truth: %v, error %d", is, e)
	}
	for name, thick := range map[string][][]int{"none": nil, "two rows": truth()[:2], "four rows": append(truth(), []int{0, 0, 0, 0}), "a short row": {{12, 10, 9, 0}, {8, 7, 6}, {0, 10, 9, 8}}, "a long row": {{12, 10, 9, 0}, {8, 7, 6, 5, 4}, {0, 10, 9, 8}}} {
		is, e := shell.Fits(exampleMap(), thick)
		wantError(t, name, e, api.ErrArg, is)
	}
	is, e := shell.Fits(api.ShellMap{}, nil)
	wantError(t, "no map", e, api.ErrArg, is)
}

// P1.1: Thick returns the least and the greatest thickness of each cell; the chapter's example among others.
func TestThick(t *testing.T) {
	bare := func(taper int, gauges []api.ShellGauge, rows ...string) api.ShellMap {
		return api.ShellMap{Cells: grid(rows...), Taper: taper, Gauges: gauges}
	}
	for name, x := range map[string]struct {
		m    api.ShellMap
		want [][]api.Span
	}{
		"the chapter's":    {exampleMap(), [][]api.Span{{span(11, 13), span(9, 12), span(8, 10), span(0, 0)}, {span(4, 12), span(4, 10), span(4, 8), span(4, 6)}, {span(0, 0), span(8, 12), span(7, 11), span(7, 9)}}},
		"nothing is known": {bare(2, nil, "##"), [][]api.Span{{span(0, 60), span(0, 60)}}},
		"to the right":     {bare(2, []api.ShellGauge{gauge(0, 0, 5, 0)}, "####"), [][]api.Span{{span(5, 5), span(3, 5), span(1, 5), span(0, 5)}}},
		"to the left":      {bare(2, []api.ShellGauge{gauge(0, 2, 55, 0)}, "###"), [][]api.Span{{span(55, 59), span(55, 57), span(55, 55)}}},
		"to the top":       {bare(9, []api.ShellGauge{gauge(0, 1, 55, 0)}, "##"), [][]api.Span{{span(55, 60), span(55, 55)}}},
		"cells apart":      {bare(2, []api.ShellGauge{gauge(0, 0, 5, 0)}, "#.#"), [][]api.Span{{span(5, 5), span(0, 0), span(0, 60)}}},
		"through a worm":   {bare(2, []api.ShellGauge{gauge(0, 0, 5, 0)}, "#o#"), [][]api.Span{{span(5, 5), span(3, 5), span(1, 5)}}},
		"rows apart":       {bare(2, []api.ShellGauge{gauge(0, 0, 5, 0)}, "#", "#"), [][]api.Span{{span(5, 5)}, {span(0, 60)}}},
		"taper 0":          {bare(0, []api.ShellGauge{gauge(0, 0, 5, 1), gauge(0, 2, 7, 2)}, "###"), [][]api.Span{{span(5, 6), span(5, 6), span(5, 6)}}},
		"cracks do not":    {api.ShellMap{Cells: grid("##"), Taper: 2, Gauges: []api.ShellGauge{gauge(0, 0, 5, 0)}, Cracks: []api.ShellCrack{right(0, 0)}}, [][]api.Span{{span(5, 5), span(3, 5)}}},
		"ends of a gauge":  {bare(0, []api.ShellGauge{gauge(0, 0, 3, 9), gauge(1, 0, 58, 9)}, "#", "#"), [][]api.Span{{span(0, 12)}, {span(49, 60)}}},
		"just possible":    {bare(2, []api.ShellGauge{gauge(0, 0, 9, 0), gauge(0, 2, 5, 0)}, "###"), [][]api.Span{{span(9, 9), span(7, 7), span(5, 5)}}},
	} {
		got, e := shell.Thick(x.m)
		if e != api.OK || !reflect.DeepEqual(got, x.want) {
			t.Errorf("%s: %v, error %d", name, got, e)
		}
	}
	for name, m := range map[string]api.ShellMap{
		"thicker to the right": tornWork().Map,
		"thinner by more":      bare(2, []api.ShellGauge{gauge(0, 0, 9, 0), gauge(0, 2, 4, 0)}, "###"),
		"two at a cell":        bare(2, []api.ShellGauge{gauge(0, 0, 9, 0), gauge(0, 0, 6, 2)}, "#"),
		"in the last row":      bare(2, []api.ShellGauge{gauge(2, 0, 9, 0), gauge(2, 1, 6, 0)}, "##", "##", "##"),
	} {
		got, e := shell.Thick(m)
		wantError(t, name, e, api.ErrRule, got)
	}
	for name, change := range badMaps() {
		m := exampleMap()
		change(&m)
		got, e := shell.Thick(m)
		wantError(t, name, e, api.ErrArg, got)
	}
}

// P1.1: whatever is true, each thickness lies within its bounds, and all ends together are truths.
func TestThickOfAllTruths(t *testing.T) {
	d := dice(1)
	torn := 0
	for range 400 {
		m := drawn(&d, d.from(1, 2), d.from(1, 4))
		thick := truthFor(&d, m)
		if d.upTo(1) == 0 {
			// gauges of another shell
			thick = truthFor(&d, drawn(&d, len(m.Cells), len(m.Cells[0])))
		}
		measured(&d, &m, thick, d.upTo(6))
		got, e := shell.Thick(m)
		want := boundsByTrying(m)
		if want == nil {
			torn++
			wantError(t, "torn by chance", e, api.ErrRule, got)
			continue
		}
		if e != api.OK || !reflect.DeepEqual(got, want) {
			t.Fatalf("%v: %v, error %d, want %v", m, got, e, want)
		}
		var least, most [][]int
		for _, spans := range got {
			var low, high []int
			for _, s := range spans {
				low, high = append(low, s.Low), append(high, s.High)
			}
			least, most = append(least, low), append(most, high)
		}
		for _, thick := range [][][]int{least, most} {
			if is, e := shell.Fits(m, thick); !is || e != api.OK {
				t.Errorf("%v: %v is no truth", m, thick)
			}
		}
	}
	if torn < 20 {
		t.Errorf("only %d maps are not possible", torn)
	}
}

// boundsByTrying returns the bounds of all cells, or nil for a map that is not possible.
func boundsByTrying(m api.ShellMap) [][]api.Span {
	var bounds [][]api.Span
	for row := range m.Cells {
		truths := rowTruths(m, row)
		if len(truths) == 0 {
			return nil
		}
		spans := make([]api.Span, len(m.Cells[row]))
		for column := range spans {
			spans[column] = span(truths[0][column], truths[0][column])
			for _, thick := range truths {
				spans[column] = span(min(spans[column].Low, thick[column]), max(spans[column].High, thick[column]))
			}
		}
		bounds = append(bounds, spans)
	}
	return bounds
}

// P1.1: what Fits reports is what the definition says, for numbers near truths.
func TestFitsByTrying(t *testing.T) {
	d := dice(2)
	truths := 0
	for range 3000 {
		m := drawn(&d, d.from(1, 2), d.from(1, 3))
		thick := truthFor(&d, m)
		measured(&d, &m, thick, d.upTo(3))
		if d.upTo(2) > 0 {
			thick[d.upTo(len(thick)-1)][d.upTo(len(thick[0])-1)] += d.from(-2, 2)
		}
		want := true
		for row, numbers := range thick {
			for column, n := range numbers {
				want = want && n >= 0 && n <= api.ShellThick && canBeThick(m, row, column, numbers, n)
			}
		}
		if want {
			truths++
		}
		if is, e := shell.Fits(m, thick); e != api.OK || is != want {
			t.Fatalf("%v %v: %v, error %d", m, thick, is, e)
		}
	}
	if truths < 500 || truths > 2500 {
		t.Errorf("%d of 3000 are truths", truths)
	}
}
