package drum_test

import (
	"math"
	"reflect"
	"slices"
	"testing"

	"nacre/api"
	"nacre/drum"
)

// wantNoNarrower fails unless a window has all hours that another one has; it reports whether it has more.
func wantNoNarrower(t *testing.T, why string, before, after api.DrumDrum) bool {
	t.Helper()
	more := false
	sets := [][]int{all(before)}
	for n := range before.Batches {
		sets = append(sets, []int{n})
	}
	for _, set := range sets {
		x, y := before, after
		x.Batches, y.Batches = chosen(before.Batches, set), chosen(after.Batches, set)
		v, e := drum.Window(x)
		w, g := drum.Window(y)
		if e == api.OK && (g != api.OK || w.Low > v.Low || w.High < v.High) {
			t.Errorf("%s: the window of %v was %v, and is %v of %v, error %d", why, before, v, w, after, g)
		}
		more = more || g == api.OK && (e != api.OK || w != v)
	}
	return more
}

// wantWider fails unless windows of drums by chance get wider by some change, of which a truth remains one, and none gets narrower.
func wantWider(t *testing.T, why string, d dice, change func(d *dice, x *api.DrumDrum, y api.DrumTruth)) {
	t.Helper()
	wider := 0
	for range 800 {
		x, y := drumBy(&d)
		if d.upTo(3) == 0 {
			x, y = bigDrum(&d)
		}
		x.Strips = x.Strips[:min(len(x.Strips), api.DrumStrips-1)]
		after := x
		change(&d, &after, y)
		if wantNoNarrower(t, why, x, after) {
			wider++
		}
	}
	if wider < 20 {
		t.Errorf("%s: windows get wider %d times", why, wider)
	}
}

// P3.10: one strip more, and fewer acids that are known, never make a window narrower, if the drum is possible still.
func TestKnownBetter(t *testing.T) {
	wantWider(t, "a strip more", 41, func(d *dice, x *api.DrumDrum, y api.DrumTruth) {
		x.Strips = append(slices.Clone(x.Strips), stripOf(d, y, 3))
	})
	wantWider(t, "fewer acids", 42, func(d *dice, x *api.DrumDrum, y api.DrumTruth) {
		x.Known &= d.from(0, 15) | 1<<y.Acid
	})
}

// P3.10: if all batches are put in another order, the window is the same.
func TestAnotherOrder(t *testing.T) {
	d := dice(43)
	some := 0
	for range 300 {
		x, _ := drumBy(&d)
		want, err := drum.Window(x)
		order := all(x)
		for i := range order {
			j := d.from(i, len(order)-1)
			order[i], order[j] = order[j], order[i]
		}
		y := x
		y.Batches = chosen(x.Batches, order)
		if got, e := drum.Window(y); e != err || got != want {
			t.Errorf("%v: %v, error %d, and in the order %v %v, error %d", x, want, err, order, got, e)
		}
		if err == api.OK && !slices.IsSorted(order) {
			some++
		}
	}
	if some < 20 {
		t.Errorf("%d windows in another order", some)
	}
}

// P0.3: whatever acid a drum has, each batch is smooth and thick enough after each hour of its window; otherwise batches are named, and the others have one.
func TestWindowOrNamed(t *testing.T) {
	d := dice(44)
	whole, rest := 0, 0
	for range 300 {
		x, _ := drumBy(&d)
		truths := allTruths(x)
		named, e := drum.Named(x)
		if e != api.OK {
			t.Fatal(x, e)
		}
		_, e = drum.Window(x)
		if (e == api.OK) != (len(named) == 0) {
			t.Fatalf("%v: Window has the error %d, and Named is %v", x, e, named)
		}
		y := x
		y.Batches = chosen(x.Batches, without(x, named))
		if len(y.Batches) == 0 {
			continue
		}
		w, e := drum.Window(y)
		if e != api.OK {
			t.Fatalf("%v without %v: error %d", x, named, e)
		}
		for hour := w.Low; hour <= w.High; hour++ {
			z := truths[d.upTo(len(truths)-1)]
			for _, b := range y.Batches {
				if s := stateAfter(b, z, hour); s.Rough > b.Goal || s.Thick < b.Least {
					t.Fatalf("%v, %v after %d: the batch %v is %v", y, z, hour, b, s)
				}
			}
		}
		if len(named) == 0 {
			whole++
		} else {
			rest++
		}
	}
	if whole < 20 || rest < 20 {
		t.Errorf("%d windows, and %d of the rest", whole, rest)
	}
}

// question is the arguments of all functions.
type question struct {
	d               api.DrumDrum
	y               api.DrumTruth
	off, hours      int
	batch, hour, by int
	sorting         []int
	text            string
}

// everything calls all functions, and returns all of their results.
func everything(q question) []any {
	var all []any
	add := func(results ...any) { all = append(all, results...) }
	add(drum.Check(q.d))
	is, e := drum.Fits(q.d, q.y)
	add(is, e)
	list, e := drum.Could(q.d)
	add(list, e)
	strength, e := drum.Strength(q.d)
	add(strength, e)
	n, e := drum.Tells(q.d, q.off)
	add(n, e)
	states, e := drum.Run(q.d, q.y, q.hours)
	add(states, e)
	known, e := drum.Known(q.d, q.hours)
	add(known, e)
	n, e = drum.Smooth(q.d, q.batch)
	add(n, e)
	n, e = drum.Thin(q.d, q.batch)
	add(n, e)
	w, e := drum.Window(q.d)
	add(w, e)
	list, e = drum.Named(q.d)
	add(list, e)
	is, e = drum.Sorts(q.d, q.sorting)
	add(is, e)
	list, n, e = drum.Sort(q.d)
	add(list, n, e)
	list, e = drum.Apart(q.d)
	add(list, e)
	n, e = drum.Top(q.d, q.hour, q.by)
	add(n, e)
	text, e := drum.Print(q.d)
	add(text, e)
	read, e := drum.Read(q.text)
	add(read, e)
	return all
}

// asked returns a question to which all functions have an answer.
func asked() question {
	d := someOf(1, 2)
	text, _ := drum.Print(d)
	q := question{d: d, y: truth(0, 40, 35, 30, 25), off: 4, hours: 2, batch: 0, hour: 2, by: 3, sorting: []int{0, 1}, text: text}
	q.d.Batches[1].Least = 0
	return q
}

// R4 and R8: no argument is changed, results share no memory, and a second call has equal results.
func TestMemory(t *testing.T) {
	q := asked()
	first := everything(q)
	if !reflect.DeepEqual(q, asked()) {
		t.Fatal("an argument was changed")
	}
	want := everything(q)
	if !reflect.DeepEqual(first, want) {
		t.Errorf("%v, then %v", first, want)
	}
	for _, x := range first {
		if e, ok := x.(api.Errno); ok && e != api.OK {
			t.Fatalf("%v: not all have an answer", first)
		}
		spoil(reflect.ValueOf(x))
	}
	if got := everything(q); !reflect.DeepEqual(got, want) {
		t.Errorf("a result that was changed changes another one: %v, want %v", got, want)
	}
	if !reflect.DeepEqual(q, asked()) {
		t.Error("a result shares memory with an argument")
	}
	apart := map[uintptr]bool{}
	for _, x := range want {
		lists(reflect.ValueOf(x), func(v reflect.Value) {
			if v.Len() > 0 && apart[v.Pointer()] {
				t.Errorf("two lists share memory: %v", v)
			}
			apart[v.Pointer()] = true
		})
	}
}

// lists goes through all lists of a value.
func lists(v reflect.Value, visit func(reflect.Value)) {
	switch v.Kind() {
	case reflect.Slice:
		visit(v)
	case reflect.Struct:
		for i := range v.NumField() {
			lists(v.Field(i), visit)
		}
	}
}

// spoil changes all elements of all lists of a value, and what is behind their ends.
func spoil(v reflect.Value) {
	lists(v, func(list reflect.Value) {
		room := list.Slice(0, list.Cap())
		for i := range room.Len() {
			if x := room.Index(i); x.Kind() == reflect.Int {
				x.SetInt(77)
			} else {
				x.SetZero()
			}
		}
	})
}

// R3: nil and empty lists are the same.
func TestEmptyLists(t *testing.T) {
	q := asked()
	q.d.Strips = nil
	want := everything(q)
	q.d.Strips = []api.DrumStrip{}
	if got := everything(q); !reflect.DeepEqual(got, want) {
		t.Errorf("%v, want %v", got, want)
	}
	want = everything(question{})
	bare := api.DrumDrum{Acids: []api.DrumAcid{}, Adds: []int{}, Strips: []api.DrumStrip{}, Batches: []api.DrumBatch{}}
	if got := everything(question{d: bare, y: truth(0, []int{}...), sorting: []int{}}); !reflect.DeepEqual(got, want) {
		t.Errorf("%v, want %v", got, want)
	}
}

// wild returns a number by chance, often one out of range.
func wild(d *dice) int {
	if d.upTo(7) == 0 {
		return []int{math.MinInt, math.MaxInt, math.MinInt + 1, math.MaxInt - 1, -1, 13, 101, 2001}[d.upTo(7)]
	}
	return d.upTo(4)
}

// wildList returns a list of numbers by chance.
func wildList(d *dice) []int {
	var l []int
	for range d.upTo(6) {
		l = append(l, wild(d))
	}
	return l
}

// wildDrum returns a drum by chance, most often one that is not as defined.
func wildDrum(d *dice) api.DrumDrum {
	x, _ := drumBy(d)
	switch d.upTo(9) {
	case 0:
		x.Acids = append(x.Acids, acid(wild(d), wild(d), wild(d), wild(d)))
	case 1:
		x.Acids = slices.Repeat(x.Acids, d.upTo(70))
	case 2:
		x.Known = wild(d)
	case 3:
		x.Hours = wild(d)
	case 4:
		x.Adds = wildList(d)
	case 5:
		x.Hours, x.Adds = d.upTo(6), wildList(d)
	case 6:
		x.Strips = append(x.Strips, strip(wild(d), wild(d), wild(d)))
	case 7:
		x.Batches = append(x.Batches, batch(wild(d), wild(d), wild(d), wild(d), wild(d), wild(d)))
	}
	return x
}

// wildQuestion returns a question by chance, most often one that has no answer.
func wildQuestion(d *dice) question {
	q := question{
		d: wildDrum(d), y: truth(wild(d), wildList(d)...), off: wild(d), hours: wild(d),
		batch: wild(d), hour: wild(d), by: wild(d), sorting: wildList(d),
	}
	var text []byte
	for range d.upTo(60) {
		const marks = "drum 01-23known\nacid fall add strip batch end\xff"
		text = append(text, marks[d.upTo(len(marks)-1)])
	}
	q.text = string(text)
	return q
}

// P0.1: every function terminates and does not panic, for all arguments; with an error, all other results are zero values.
func TestAnyArguments(t *testing.T) {
	d := dice(45)
	questions := []question{{}, asked()}
	for range 4000 {
		questions = append(questions, wildQuestion(&d))
	}
	for _, q := range questions {
		var results []any
		for _, x := range everything(q) {
			e, ok := x.(api.Errno)
			if !ok {
				results = append(results, x)
				continue
			}
			wantError(t, "a question by chance", e, e, results...)
			results = nil
		}
	}
}

// P0.1: lists that are far too long end at once, and so do the longest ones that there are.
func TestLongLists(t *testing.T) {
	const many = 1000000
	for name, change := range map[string]func(*api.DrumDrum){
		"acids":   func(d *api.DrumDrum) { d.Acids = slices.Repeat(d.Acids, many) },
		"adds":    func(d *api.DrumDrum) { d.Adds = make([]int, many) },
		"hours":   func(d *api.DrumDrum) { d.Hours, d.Adds = many, make([]int, many) },
		"strips":  func(d *api.DrumDrum) { d.Strips = slices.Repeat(d.Strips, many) },
		"batches": func(d *api.DrumDrum) { d.Batches = slices.Repeat(d.Batches, many) },
	} {
		wantErrors(t, "many "+name, changed(change), api.ErrArg)
	}
	is, e := drum.Sorts(drumD(), make([]int, many))
	wantError(t, "a long sorting", e, api.ErrArg, is)
	is, e = drum.Fits(drumD(), truth(0, make([]int, many)...))
	wantError(t, "a long truth", e, api.ErrArg, is)
	most := full()
	most.Strips = nil
	for hour := range most.Hours {
		if n, e := drum.Top(most, hour, most.Hours); e == api.ErrArg {
			t.Errorf("Top of the greatest drum: %d, error %d", n, e)
		}
	}
}
