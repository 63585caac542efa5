package shell_test

import (
	"math"
	"reflect"
	"slices"
	"testing"

	"nacre/api"
	"nacre/shell"
)

// exampleProof returns the plain proof of the chapter's work.
func exampleProof() api.ShellProof {
	return api.ShellProof{Rows: []int{10, 6, 8}, Bands: []api.ShellBand{
		{Row: 0, Width: 1, Columns: []int{4, 4, 2, 0}},
		{Row: 0, Width: 2, Columns: []int{0, 0, 0, 0}},
		{Row: 1, Width: 1, Columns: []int{2, 0, 2, 2}},
		{Row: 1, Width: 2, Columns: []int{0, 0, 0, 14}},
		{Row: 2, Width: 1, Columns: []int{0, 2, 2, 2}},
	}}
}

// P1.5: Proof returns the plain proof; the chapter's example among others.
func TestProof(t *testing.T) {
	p, n, e := shell.Proof(exampleWork())
	if e != api.OK || n != 24 || !reflect.DeepEqual(p, exampleProof()) {
		t.Errorf("%v, %d, error %d", p, n, e)
	}
	// a tube that is wider than the map is high has no band
	low := api.ShellWork{Map: api.ShellMap{Cells: grid("###")}, Tubes: []api.ShellTube{{Width: 2, Need: 4, Worth: 5}}}
	if p, n, e := shell.Proof(low); e != api.OK || n != 0 || !slices.Equal(p.Rows, []int{0}) || len(p.Bands) > 0 {
		t.Errorf("%v, %d, error %d", p, n, e)
	}
	// one that is wider than the map is broad has one
	narrow := api.ShellWork{Map: api.ShellMap{Cells: grid("#", "#")}, Tubes: []api.ShellTube{{Width: 2, Need: 4, Worth: 5}, {Width: 2, Need: 3, Worth: 5}}}
	want := api.ShellProof{Rows: []int{0, 0}, Bands: []api.ShellBand{{Row: 0, Width: 2, Columns: []int{0}}}}
	if p, n, e := shell.Proof(narrow); e != api.OK || n != 0 || !reflect.DeepEqual(p, want) {
		t.Errorf("%v, %d, error %d", p, n, e)
	}
	p, n, e = shell.Proof(tornWork())
	wantError(t, "torn", e, api.ErrRule, p, n)
	for name, change := range badWorks() {
		w := exampleWork()
		change(&w)
		p, n, e := shell.Proof(w)
		wantError(t, name, e, api.ErrArg, p, n)
	}
}

// P1.5: Proves returns what a proof proves, ErrArg, or ErrNone.
func TestProves(t *testing.T) {
	for name, x := range map[string]struct {
		change func(*api.ShellProof)
		n      int
		e      api.Errno
	}{
		"as it is":               {func(*api.ShellProof) {}, 24, api.OK},
		"a greater weight":       {func(p *api.ShellProof) { p.Rows[0] = 11 }, 25, api.OK},
		"rows that share":        {func(p *api.ShellProof) { p.Rows[1], p.Rows[2] = 7, 7 }, 24, api.OK},
		"columns that share":     {func(p *api.ShellProof) { p.Bands[3].Columns = []int{0, 0, 7, 7} }, 24, api.OK},
		"the greatest weight":    {func(p *api.ShellProof) { p.Rows[0] = 1000000 }, 1000014, api.OK},
		"all are the greatest":   {func(p *api.ShellProof) { p.Rows = []int{1000000, 1000000, 1000000} }, 3000000, api.OK},
		"a row too little":       {func(p *api.ShellProof) { p.Rows[0] = 9 }, 0, api.ErrNone},
		"two rows too little":    {func(p *api.ShellProof) { p.Rows[1], p.Rows[2] = 6, 7 }, 0, api.ErrNone},
		"the last row too":       {func(p *api.ShellProof) { p.Rows[1], p.Rows[2] = 9, 5 }, 0, api.ErrNone},
		"a column too little":    {func(p *api.ShellProof) { p.Bands[0].Columns[2] = 1 }, 0, api.ErrNone},
		"columns of no use":      {func(p *api.ShellProof) { p.Bands[3].Columns = []int{0, 7, 7, 0} }, 0, api.ErrNone},
		"columns too much":       {func(p *api.ShellProof) { p.Bands[1].Columns[0] = 17 }, 0, api.ErrNone},
		"columns just enough":    {func(p *api.ShellProof) { p.Bands[1].Columns[0] = 16 }, 24, api.OK},
		"rows less":              {func(p *api.ShellProof) { p.Rows = []int{24, 0} }, 0, api.ErrArg},
		"rows more":              {func(p *api.ShellProof) { p.Rows = append(p.Rows, 0) }, 0, api.ErrArg},
		"no rows":                {func(p *api.ShellProof) { p.Rows = nil }, 0, api.ErrArg},
		"a row below 0":          {func(p *api.ShellProof) { p.Rows[0] = -1 }, 0, api.ErrArg},
		"a row too great":        {func(p *api.ShellProof) { p.Rows[2] = 1000001 }, 0, api.ErrArg},
		"a row far too great":    {func(p *api.ShellProof) { p.Rows[2] = math.MaxInt }, 0, api.ErrArg},
		"bands less":             {func(p *api.ShellProof) { p.Bands = p.Bands[1:] }, 0, api.ErrArg},
		"bands more":             {func(p *api.ShellProof) { p.Bands = append(p.Bands, p.Bands[4]) }, 0, api.ErrArg},
		"no bands":               {func(p *api.ShellProof) { p.Bands = nil }, 0, api.ErrArg},
		"bands in no order":      {func(p *api.ShellProof) { p.Bands[0], p.Bands[1] = p.Bands[1], p.Bands[0] }, 0, api.ErrArg},
		"a band of width 3":      {func(p *api.ShellProof) { p.Bands[1].Width = 3 }, 0, api.ErrArg},
		"a band of another row":  {func(p *api.ShellProof) { p.Bands[1].Row = 1 }, 0, api.ErrArg},
		"columns less":           {func(p *api.ShellProof) { p.Bands[1].Columns = []int{0, 0, 0} }, 0, api.ErrArg},
		"columns more":           {func(p *api.ShellProof) { p.Bands[1].Columns = []int{0, 0, 0, 0, 0} }, 0, api.ErrArg},
		"a column below 0":       {func(p *api.ShellProof) { p.Bands[4].Columns[3] = -1 }, 0, api.ErrArg},
		"a column too great":     {func(p *api.ShellProof) { p.Bands[4].Columns[3] = 1000001 }, 0, api.ErrArg},
		"a column far too great": {func(p *api.ShellProof) { p.Bands[4].Columns = []int{math.MaxInt, math.MaxInt, 2, 2} }, 0, api.ErrArg},
	} {
		p := exampleProof()
		x.change(&p)
		n, e := shell.Proves(exampleWork(), p)
		wantError(t, name, e, x.e, n)
		if n != x.n {
			t.Errorf("%s: proves %d", name, n)
		}
	}
	torn := api.ShellProof{Rows: []int{0}, Bands: []api.ShellBand{{Row: 0, Width: 1, Columns: []int{1, 0}}}}
	n, e := shell.Proves(tornWork(), torn)
	wantError(t, "torn, and proves no sum", e, api.ErrRule, n)
	n, e = shell.Proves(tornWork(), api.ShellProof{})
	wantError(t, "torn, and no proof", e, api.ErrArg, n)
	for name, change := range badWorks() {
		w := exampleWork()
		change(&w)
		n, e := shell.Proves(w, exampleProof())
		wantError(t, name, e, api.ErrArg, n)
	}
}

// plainProof returns the plain proof by trying all cuttings, or nothing if there are too many.
func plainProof(w api.ShellWork) (api.ShellProof, bool) {
	blanks := allBlanks(w)
	least := leastTruth(w.Map)
	if len(allCuttings(w, blanks, 2000)) == 0 {
		return api.ShellProof{}, false
	}
	most := func(keep func(b api.ShellBlank, width int) bool) int {
		kept := slices.DeleteFunc(slices.Clone(blanks), func(b api.ShellBlank) bool { return !keep(b, w.Tubes[b.Tube].Width) })
		_, n := bestOf(w, allCuttings(w, kept, 2000), least)
		return n
	}
	var p api.ShellProof
	for row := range w.Map.Cells {
		upTo := most(func(b api.ShellBlank, width int) bool { return b.Row+width-1 <= row })
		p.Rows = append(p.Rows, upTo-most(func(b api.ShellBlank, width int) bool { return b.Row+width-1 < row }))
		for width := 1; width <= api.ShellWidth && row+width <= len(w.Map.Cells); width++ {
			if !slices.ContainsFunc(w.Tubes, func(t api.ShellTube) bool { return t.Width == width }) {
				continue
			}
			band := api.ShellBand{Row: row, Width: width}
			for column := range w.Map.Cells[row] {
				of := func(b api.ShellBlank, wide, end int) bool {
					return b.Row == row && wide == width && b.Column+wide-1 <= end
				}
				upTo := most(func(b api.ShellBlank, wide int) bool { return of(b, wide, column) })
				band.Columns = append(band.Columns, upTo-most(func(b api.ShellBlank, wide int) bool { return of(b, wide, column-1) }))
			}
			p.Bands = append(p.Bands, band)
		}
	}
	return p, true
}

// P1.5: the plain proof is what the definition says.
func TestProofByTrying(t *testing.T) {
	d := dice(7)
	tried := 0
	for range 500 {
		w := workBy(&d, d.from(1, 4), d.from(1, 4))
		want, ok := plainProof(w)
		if !ok {
			continue
		}
		tried++
		p, n, e := shell.Proof(w)
		if e != api.OK || !reflect.DeepEqual(p, want) {
			t.Fatalf("%v: %v, %d, error %d, want %v", w, p, n, e, want)
		}
	}
	if tried < 150 {
		t.Errorf("only %d works", tried)
	}
}

// P1.5: the plain proof proves just what the best cutting is surely worth, for works of any size.
func TestProofIsTight(t *testing.T) {
	d := dice(8)
	for range 150 {
		w := workBy(&d, d.from(1, api.ShellRows), d.from(1, api.ShellColumns))
		_, best := pack(t, w)
		p, n, e := shell.Proof(w)
		if e != api.OK || n != best {
			t.Errorf("%v: the proof's sum is %d, error %d, want %d", w, n, e, best)
		}
		if n, e := shell.Proves(w, p); e != api.OK || n != best {
			t.Errorf("%v: the plain proof proves %d, error %d, want %d", w, n, e, best)
		}
	}
}

// provesByDefinition returns whether a proof with the right rows and bands proves its sum.
func provesByDefinition(w api.ShellWork, p api.ShellProof, least [][]int) bool {
	for _, band := range p.Bands {
		rest := 0
		for row := band.Row; row < band.Row+band.Width; row++ {
			rest += p.Rows[row]
		}
		for _, n := range band.Columns {
			rest -= n
		}
		if rest < 0 {
			return false
		}
	}
	for _, b := range allBlanks(w) {
		width := w.Tubes[b.Tube].Width
		for _, band := range p.Bands {
			if band.Row != b.Row || band.Width != width {
				continue
			}
			rest := 0
			for column := b.Column; column < b.Column+width; column++ {
				rest += band.Columns[column]
			}
			if rest < worthIn(w, []api.ShellBlank{b}, least) {
				return false
			}
		}
	}
	return true
}

// P1.5: no proof that somebody proposes proves less than some cutting is surely worth.
func TestProvesOfAnyProof(t *testing.T) {
	d := dice(9)
	held := 0
	for range 400 {
		w := workBy(&d, d.from(1, 4), d.from(1, 4))
		_, best := pack(t, w)
		p, _, e := shell.Proof(w)
		if e != api.OK {
			t.Fatal(w, e)
		}
		for range d.from(1, 4) {
			disturb(&d, &p)
		}
		n, e := shell.Proves(w, p)
		if provesByDefinition(w, p, leastTruth(w.Map)) {
			held++
			total := 0
			for _, row := range p.Rows {
				total += row
			}
			if e != api.OK || n != total || n < best {
				t.Errorf("%v %v proves %d, error %d, want %d, and the best cutting is worth %d", w, p, n, e, total, best)
			}
			continue
		}
		wantError(t, "a proof that proves no sum", e, api.ErrNone, n)
	}
	if held < 50 || held > 350 {
		t.Errorf("%d of 400 proofs hold", held)
	}
}

// disturb changes one weight of a proof by 1, or moves it to the next column.
func disturb(d *dice, p *api.ShellProof) {
	list := p.Rows
	if len(p.Bands) > 0 && d.upTo(1) == 0 {
		list = p.Bands[d.upTo(len(p.Bands)-1)].Columns
	}
	i := d.upTo(len(list) - 1)
	j := (i + 1) % len(list)
	switch d.upTo(3) {
	case 0:
		list[i] = max(0, list[i]-1)
	case 1:
		list[i]++
	default:
		if list[i] > 0 {
			list[i], list[j] = list[i]-1, list[j]+1
		}
	}
}
