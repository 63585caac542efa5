package shell_test

import (
	"math"
	"reflect"
	"slices"
	"testing"

	"nacre/api"
	"nacre/shell"
)

// P1.10: one gauge more never makes bounds wider, nor the best cutting worth less.
func TestOneGaugeMore(t *testing.T) {
	d := dice(14)
	better := 0
	for range 300 {
		m := drawn(&d, d.from(1, api.ShellRows), d.from(1, api.ShellColumns))
		thick := truthFor(&d, m)
		measured(&d, &m, thick, d.upTo(7))
		w := workOf(&d, m)
		more := w
		more.Map = copyMap(m)
		measured(&d, &more.Map, thick, 1)
		before, e := shell.Thick(w.Map)
		after, f := shell.Thick(more.Map)
		if e != api.OK || f != api.OK {
			t.Fatal(w, e, f)
		}
		for row, spans := range after {
			for column, s := range spans {
				if s.Low < before[row][column].Low || s.High > before[row][column].High {
					t.Errorf("%v: %v becomes %v", more, before[row][column], s)
				}
			}
		}
		_, n := pack(t, w)
		_, o := pack(t, more)
		if o < n {
			t.Errorf("%v: the best cutting is worth %d, with a gauge more %d", w, n, o)
		}
		if o > n {
			better++
		}
	}
	if better < 10 {
		t.Errorf("only %d gauges make a cutting worth more", better)
	}
}

// P1.10: one crack more never makes the best cutting worth more.
func TestOneCrackMore(t *testing.T) {
	d := dice(15)
	worse := 0
	for range 1500 {
		w := workBy(&d, d.from(2, 3), d.from(2, 4))
		more := w
		more.Map = copyMap(w.Map)
		rows, columns := len(w.Map.Cells), len(w.Map.Cells[0])
		crack := right(d.upTo(rows-1), d.upTo(columns-2))
		if d.upTo(1) == 0 {
			crack = down(d.upTo(rows-2), d.upTo(columns-1))
		}
		more.Map.Cracks = append(more.Map.Cracks, crack)
		_, n := pack(t, w)
		_, o := pack(t, more)
		if o > n {
			t.Errorf("%v: the best cutting is worth %d, with a crack more %d", w, n, o)
		}
		if o < n {
			worse++
		}
	}
	if worse < 10 {
		t.Errorf("only %d cracks make a cutting worth less", worse)
	}
}

// turned returns a work of which the rows are turned upside down.
func turned(w api.ShellWork) api.ShellWork {
	w.Map = copyMap(w.Map)
	last := len(w.Map.Cells) - 1
	slices.Reverse(w.Map.Cells)
	for i := range w.Map.Gauges {
		w.Map.Gauges[i].Row = last - w.Map.Gauges[i].Row
	}
	for i, c := range w.Map.Cracks {
		w.Map.Cracks[i].Row = last - c.Row
		if c.Down {
			w.Map.Cracks[i].Row--
		}
	}
	for i := range w.Map.Probed {
		w.Map.Probed[i].Row = last - w.Map.Probed[i].Row
	}
	return w
}

// P1.10: if the rows are turned upside down, the best cutting is worth the same.
func TestUpsideDown(t *testing.T) {
	d := dice(16)
	works := []api.ShellWork{exampleWork()}
	for range 300 {
		works = append(works, workBy(&d, d.from(1, api.ShellRows), d.from(1, api.ShellColumns)))
	}
	worth := 0
	for _, w := range works {
		_, n := pack(t, w)
		_, o := pack(t, turned(w))
		if n != o {
			t.Errorf("%v: the best cutting is worth %d, upside down %d", w, n, o)
		}
		if n > 0 {
			worth++
		}
	}
	if worth < 100 {
		t.Errorf("only %d works are worth something", worth)
	}
}

// everything calls all functions, and returns all of their results.
func everything(w api.ShellWork, b api.ShellBlank, cutting []api.ShellBlank, thick [][]int, p api.ShellProof, holes []api.ShellPlace, s api.ShellSack, shells []int, blanks int, text string) []any {
	var all []any
	add := func(results ...any) { all = append(all, results...) }
	add(shell.Check(w.Map), shell.Work(w), shell.Sack(s))
	fits, e := shell.Fits(w.Map, thick)
	add(fits, e)
	bounds, e := shell.Thick(w.Map)
	add(bounds, e)
	gives, e := shell.Gives(w, b)
	add(gives, e)
	worth, e := shell.Worth(w, cutting)
	add(worth, e)
	run, e := shell.Run(w, cutting, thick)
	add(run, e)
	best, n, e := shell.Pack(w)
	add(best, n, e)
	plain, n, e := shell.Proof(w)
	add(plain, n, e)
	proves, e := shell.Proves(w, p)
	add(proves, e)
	spoilt, e := shell.Spoilt(w, cutting, holes)
	add(spoilt, e)
	sound, e := shell.Sound(w, cutting)
	add(sound, e)
	holds, e := shell.Holds(s, shells)
	add(holds, e)
	sorts, e := shell.Sorts(s)
	add(sorts, e)
	total, e := shell.Total(s)
	add(total, e)
	looks, e := shell.Looks(s, blanks)
	add(looks, e)
	sheet, e := shell.Print(w.Map)
	add(sheet, e)
	read, e := shell.Read(text)
	add(read, e)
	return all
}

// P0.1 with R4 and R8: no argument is changed, results share no memory, and a second call has equal results.
func TestMemory(t *testing.T) {
	w, cutting, thick := exampleWork(), exampleCutting(), [][]int{{12, 10, 9, 0}, {8, 7, 6, 5}, {0, 10, 9, 8}}
	p, holes, s, shells := exampleProof(), []api.ShellPlace{place(0, 2)}, exampleSack(), []int{2, 3}
	text, _ := shell.Print(w.Map)
	call := func() []any { return everything(w, cutting[0], cutting, thick, p, holes, s, shells, 20, text) }
	first := call()
	if !reflect.DeepEqual(w, exampleWork()) || !slices.Equal(cutting, exampleCutting()) || !reflect.DeepEqual(thick, [][]int{{12, 10, 9, 0}, {8, 7, 6, 5}, {0, 10, 9, 8}}) || !reflect.DeepEqual(p, exampleProof()) || holes[0] != place(0, 2) || !reflect.DeepEqual(s, exampleSack()) || !slices.Equal(shells, []int{2, 3}) {
		t.Fatal("an argument was changed")
	}
	want := call()
	if !reflect.DeepEqual(first, want) {
		t.Errorf("%v, then %v", first, want)
	}
	for _, x := range first {
		spoil(reflect.ValueOf(x))
	}
	if got := call(); !reflect.DeepEqual(got, want) {
		t.Errorf("a result that was changed changes another one: %v, want %v", got, want)
	}
	if !reflect.DeepEqual(w, exampleWork()) || !reflect.DeepEqual(p, exampleProof()) {
		t.Error("a result shares memory with an argument")
	}
	apart := map[uintptr]bool{}
	for _, x := range want {
		lists(reflect.ValueOf(x), func(v reflect.Value) {
			if v.Len() > 0 && apart[v.Pointer()] {
				t.Errorf("two lists share memory: %v", v)
			}
			apart[v.Pointer()] = true
		})
	}
}

// lists goes through all lists of a value.
func lists(v reflect.Value, visit func(reflect.Value)) {
	switch v.Kind() {
	case reflect.Slice:
		visit(v)
		for i := range v.Len() {
			lists(v.Index(i), visit)
		}
	case reflect.Struct:
		for i := range v.NumField() {
			lists(v.Field(i), visit)
		}
	}
}

// spoil changes all elements of all lists of a value, and what is behind their ends.
func spoil(v reflect.Value) {
	lists(v, func(list reflect.Value) {
		room := list.Slice(0, list.Cap())
		for i := range room.Len() {
			switch x := room.Index(i); x.Kind() {
			case reflect.Int:
				x.SetInt(77)
			case reflect.Struct:
				// the columns of a band are changed one by one
				if x.Type() != reflect.TypeFor[api.ShellBand]() {
					x.SetZero()
				}
			}
		}
	})
}

// wild returns a number by chance, often one out of range.
func wild(d *dice) int {
	switch d.upTo(7) {
	case 0:
		return []int{math.MinInt, math.MaxInt, math.MinInt + 1, math.MaxInt - 1, -1, 61, 1000, 1000001}[d.upTo(7)]
	default:
		return d.upTo(3)
	}
}

// wildInts returns a list of numbers by chance.
func wildInts(d *dice) []int {
	var list []int
	for range d.upTo(4) {
		list = append(list, wild(d))
	}
	return list
}

// wildWork returns a work by chance, most often one that is not as defined.
func wildWork(d *dice) api.ShellWork {
	w := workBy(d, d.from(1, 3), d.from(1, 3))
	switch d.upTo(6) {
	case 0:
		w.Map.Gauges = append(w.Map.Gauges, gauge(wild(d), wild(d), wild(d), wild(d)))
	case 1:
		w.Map.Cracks = append(w.Map.Cracks, api.ShellCrack{Row: wild(d), Column: wild(d), Down: d.upTo(1) == 0})
	case 2:
		w.Map.Probed = append(w.Map.Probed, place(wild(d), wild(d)))
	case 3:
		w.Tubes = append(w.Tubes, api.ShellTube{Width: wild(d), Need: wild(d), Worth: wild(d)})
	case 4:
		row := d.upTo(len(w.Map.Cells) - 1)
		w.Map.Cells[row] = append(w.Map.Cells[row][:d.upTo(len(w.Map.Cells[row]))], api.ShellCell(wild(d)))
	case 5:
		w.Map.Taper, w.Map.Hidden, w.Kerf = wild(d), wild(d), wild(d)
	}
	return w
}

// P0.1: every function terminates and does not panic, for all arguments.
func TestAnyArguments(t *testing.T) {
	d := dice(17)
	everything(api.ShellWork{}, api.ShellBlank{}, nil, nil, api.ShellProof{}, nil, api.ShellSack{}, nil, 0, "")
	for range 4000 {
		w := wildWork(&d)
		b := blank(wild(&d), wild(&d), wild(&d))
		var cutting []api.ShellBlank
		var holes []api.ShellPlace
		for range d.upTo(3) {
			cutting = append(cutting, blank(wild(&d), wild(&d), wild(&d)))
			holes = append(holes, place(wild(&d), wild(&d)))
		}
		var thick [][]int
		for range d.upTo(3) {
			thick = append(thick, wildInts(&d))
		}
		p := api.ShellProof{Rows: wildInts(&d)}
		if q, _, e := shell.Proof(w); e == api.OK && d.upTo(1) == 0 {
			p = q
		}
		p.Bands = append(p.Bands, api.ShellBand{Row: wild(&d), Width: wild(&d), Columns: wildInts(&d)})
		p.Bands = p.Bands[d.upTo(1):]
		s := api.ShellSack{Shells: wild(&d), Seen: wildInts(&d), Weight: wild(&d), Off: wild(&d)}
		for range d.upTo(4) {
			s.Sorts = append(s.Sorts, api.ShellSort{Blanks: wild(&d), Weight: span(wild(&d), wild(&d))})
		}
		var text []byte
		for range d.upTo(60) {
			text = append(text, "shell 012taper9hidden.#o\ngauge crack probe end\xff"[d.upTo(46)])
		}
		everything(w, b, cutting, thick, p, holes, s, wildInts(&d), wild(&d), string(text))
	}
}

// P0.1: lists that are far too long end at once.
func TestLongLists(t *testing.T) {
	w := exampleWork()
	many := slices.Repeat(exampleCutting(), 100000)
	s, e := shell.Worth(w, many)
	wantError(t, "a long cutting", e, api.ErrArg, s)
	n, e := shell.Spoilt(w, nil, make([]api.ShellPlace, 1000000))
	wantError(t, "many holes", e, api.ErrArg, n)
	n, e = shell.Proves(w, api.ShellProof{Rows: make([]int, 1000000)})
	wantError(t, "many rows", e, api.ErrArg, n)
}

// P0.11: what was written is read as what was written, and writes the same again.
func TestTextsAgain(t *testing.T) {
	d := dice(18)
	for range 100 {
		m := drawn(&d, d.from(1, api.ShellRows), d.from(1, api.ShellColumns))
		measured(&d, &m, truthFor(&d, m), d.upTo(8))
		text, e := shell.Print(m)
		if e != api.OK {
			t.Fatal(m, e)
		}
		read, e := shell.Read(text)
		again, f := shell.Print(read)
		if e != api.OK || f != api.OK || again != text {
			t.Errorf("%q: %q, errors %d and %d", text, again, e, f)
		}
	}
}
