package drill_test

import (
	"math"
	"reflect"
	"slices"
	"testing"

	"nacre/api"
	"nacre/drill"
)

// findings is what is known of the blanks of a machine, and of a button.
type findings struct {
	words []api.DrillWord
	gauge int
	could []int
}

// find returns what is known of a machine that is possible.
func find(t *testing.T, c api.DrillMeasure, m api.DrillMachine, b api.DrillButton) findings {
	t.Helper()
	var f findings
	for before := range api.DrillBlanks {
		w, e := drill.Sure(c, m, before+1)
		if e != api.OK {
			t.Fatalf("%v, %v, blank %d: error %d", c, m, before+1, e)
		}
		f.words = append(f.words, w)
	}
	var e api.Errno
	if f.gauge, e = drill.Gauge(c, m); e != api.OK {
		t.Fatalf("%v, %v: error %d", c, m, e)
	}
	if f.could, e = drill.Could(m, b); e != api.OK {
		t.Fatalf("%v, %v: error %d", m, b, e)
	}
	return f
}

// wantNoLess fails if a blank that was sure no longer is, or if Gauge is less; it reports whether more is sure.
func wantNoLess(t *testing.T, why string, c api.DrillMeasure, m api.DrillMachine, before, after findings) bool {
	t.Helper()
	more := after.gauge > before.gauge
	for i, w := range after.words {
		if before.words[i] == api.DrillSurely && w != api.DrillSurely {
			t.Errorf("%v, %v, %s: the blank %d no longer is sure", c, m, why, i+1)
		}
		more = more || before.words[i] != w && w == api.DrillSurely
	}
	if after.gauge < before.gauge {
		t.Errorf("%v, %v, %s: Gauge was %d, and is %d", c, m, why, before.gauge, after.gauge)
	}
	return more
}

// narrowed returns a span by chance that lies in another one.
func narrowed(d *dice, s api.Span) api.Span {
	low := d.in(s)
	return span(low, d.from(low, s.High))
}

// P2.11: a greater Off, and wear and chucks that are known better, never make a blank unsure that was sure, nor Gauge less.
func TestKnownBetter(t *testing.T) {
	d := dice(41)
	looser, better := 0, 0
	for range 200 {
		c := measureBy(&d, d.from(2, 4), 9)
		m, x := tame(&d, c, 3, 2)
		b := buttonsOf(&d, m, x, 1, api.DrillErr)[0]
		before := find(t, c, m, b)
		wide := c
		wide.Off = min(api.DrillOff, c.Off+d.from(1, 2))
		if wantNoLess(t, "a greater Off", c, m, before, find(t, wide, m, b)) {
			looser++
		}
		n := m
		n.ChuckX, n.ChuckY = narrowed(&d, m.ChuckX), narrowed(&d, m.ChuckY)
		n.WearX, n.WearY = narrowed(&d, m.WearX), narrowed(&d, m.WearY)
		if drill.Machine(n) != api.OK {
			continue
		}
		if wantNoLess(t, "known better", c, n, before, find(t, c, n, b)) {
			better++
		}
	}
	if looser < 20 || better < 20 {
		t.Errorf("a greater Off makes more sure %d times, better knowledge %d times", looser, better)
	}
}

// P2.11: one reading more makes no blank unsure that was sure, nor Gauge less; and it adds no blank to those of Could.
func TestOneReadingMore(t *testing.T) {
	d := dice(42)
	surer, fewer := 0, 0
	for range 300 {
		c := measureBy(&d, d.from(2, 4), 9)
		m, x := tame(&d, c, 3, 2)
		b := buttonsOf(&d, m, x, 1, 2)[0]
		more := m
		more.Readings = append(slices.Clone(m.Readings), readingOf(&d, x))
		before, after := find(t, c, m, b), find(t, c, more, b)
		if wantNoLess(t, "a reading more", c, more, before, after) {
			surer++
		}
		for _, blank := range after.could {
			if !slices.Contains(before.could, blank) {
				t.Errorf("%v, %v: a reading more adds the blank %d to %v", more, b, blank, before.could)
			}
		}
		if len(after.could) < len(before.could) {
			fewer++
		}
	}
	if surer < 20 || fewer < 20 {
		t.Errorf("a reading more makes more sure %d times, and blanks fewer %d times", surer, fewer)
	}
}

// question is the arguments of all functions.
type question struct {
	c         api.DrillMeasure
	points    []api.DrillPoint
	turn      int
	m         api.DrillMachine
	x         api.DrillTruth
	blank     int
	b         api.DrillButton
	machines  []api.DrillMachine
	buttons   []api.DrillButton
	at, other int
	text      string
}

// everything calls all functions, and returns all of their results.
func everything(q question) []any {
	var all []any
	add := func(results ...any) { all = append(all, results...) }
	add(drill.Check(q.c), drill.Machine(q.m))
	turned, e := drill.Turn(q.points, q.turn)
	add(turned, e)
	turn, order, e := drill.Match(q.c, q.points)
	add(turn, order, e)
	fits, e := drill.Fits(q.m, q.x)
	add(fits, e)
	holes, e := drill.Holes(q.m, q.x, q.blank)
	add(holes, e)
	inX, inY, e := drill.Known(q.m, q.blank)
	add(inX, inY, e)
	word, e := drill.Sure(q.c, q.m, q.blank)
	add(word, e)
	gauge, e := drill.Gauge(q.c, q.m)
	add(gauge, e)
	could, e := drill.Could(q.m, q.b)
	add(could, e)
	who, e := drill.Who(q.machines, q.b)
	add(who, e)
	together, e := drill.Together(q.m, q.buttons)
	add(together, e)
	inX, inY, e = drill.Proves(q.m, q.b, q.at, q.other)
	add(inX, inY, e)
	stops, moves, e := drill.Reset(q.c, q.m, q.blank)
	add(stops, moves, e)
	text, e := drill.Print(q.m)
	add(text, e)
	read, e := drill.Read(q.text)
	add(read, e)
	return all
}

// asked returns a question to which all functions have an answer.
func asked() question {
	text, _ := drill.Print(machineR())
	return question{
		c: measureC(), points: points(5, 1, -3, 1), turn: 5, m: machineR(), x: exampleTruth(), blank: 2, b: buttonB(),
		machines: []api.DrillMachine{machineM(), machineR()}, buttons: []api.DrillButton{buttonB(), buttonD()}, at: 1, other: 3, text: text,
	}
}

// R4 and R8: no argument is changed, results share no memory, and a second call has equal results.
func TestMemory(t *testing.T) {
	q := asked()
	first := everything(q)
	if !reflect.DeepEqual(q, asked()) {
		t.Fatal("an argument was changed")
	}
	want := everything(q)
	if !reflect.DeepEqual(first, want) {
		t.Errorf("%v, then %v", first, want)
	}
	for _, x := range first {
		if e, ok := x.(api.Errno); ok && e != api.OK {
			t.Fatalf("%v: not all have an answer", first)
		}
		spoil(reflect.ValueOf(x))
	}
	if got := everything(q); !reflect.DeepEqual(got, want) {
		t.Errorf("a result that was changed changes another one: %v, want %v", got, want)
	}
	if !reflect.DeepEqual(q, asked()) {
		t.Error("a result shares memory with an argument")
	}
	apart := map[uintptr]bool{}
	for _, x := range want {
		lists(reflect.ValueOf(x), func(v reflect.Value) {
			if v.Len() > 0 && apart[v.Pointer()] {
				t.Errorf("two lists share memory: %v", v)
			}
			apart[v.Pointer()] = true
		})
	}
}

// lists goes through all lists of a value.
func lists(v reflect.Value, visit func(reflect.Value)) {
	switch v.Kind() {
	case reflect.Slice:
		visit(v)
	case reflect.Struct:
		for i := range v.NumField() {
			lists(v.Field(i), visit)
		}
	}
}

// spoil clears all elements of all lists of a value, and what is behind their ends.
func spoil(v reflect.Value) {
	lists(v, func(list reflect.Value) {
		room := list.Slice(0, list.Cap())
		for i := range room.Len() {
			if x := room.Index(i); x.Kind() == reflect.Int {
				x.SetInt(77)
			} else {
				x.SetZero()
			}
		}
	})
}

// R3: nil and empty lists are the same.
func TestEmptyLists(t *testing.T) {
	q := asked()
	q.m.Readings = nil
	want := everything(q)
	q.m.Readings = []api.DrillReading{}
	if got := everything(q); !reflect.DeepEqual(got, want) {
		t.Errorf("%v, want %v", got, want)
	}
	if l, e := drill.Who([]api.DrillMachine{}, buttonB()); e != api.ErrArg || len(l) > 0 {
		t.Errorf("no machines: %v, error %d", l, e)
	}
	if l, e := drill.Together(machineM(), []api.DrillButton{}); e != api.ErrArg || len(l) > 0 {
		t.Errorf("no buttons: %v, error %d", l, e)
	}
}

// wild returns a number by chance, often one out of range.
func wild(d *dice) int {
	if d.upTo(7) == 0 {
		return []int{math.MinInt, math.MaxInt, math.MinInt + 1, math.MaxInt - 1, -1, 13, 21, 81}[d.upTo(7)]
	}
	return d.upTo(4)
}

// wildPoints returns points by chance.
func wildPoints(d *dice) []api.DrillPoint {
	var l []api.DrillPoint
	for range d.from(1, 5) {
		l = append(l, point(wild(d), wild(d)))
	}
	return l
}

// wildMachine returns a machine by chance, most often one that is not as defined.
func wildMachine(d *dice) api.DrillMachine {
	m, _ := machineBy(d, d.from(2, 4), api.DrillWide, api.DrillWander)
	switch d.upTo(6) {
	case 0:
		m.Stops = wildPoints(d)
	case 1:
		m.ChuckX, m.ChuckY = span(wild(d), wild(d)), span(wild(d), wild(d))
	case 2:
		m.WearX, m.WearY = span(wild(d), wild(d)), span(wild(d), wild(d))
	case 3:
		m.Readings = append(m.Readings, reading(wild(d), wild(d), wild(d), wild(d)))
	case 4:
		m.Readings = slices.Repeat(m.Readings, 3)
	}
	return m
}

// wildQuestion returns a question by chance, most often one that has no answer.
func wildQuestion(d *dice) question {
	q := question{
		c: measureBy(d, d.from(2, 4), 20), points: wildPoints(d), turn: wild(d), m: wildMachine(d), blank: wild(d),
		b: api.DrillButton{Holes: wildPoints(d), Err: wild(d)}, at: wild(d), other: wild(d),
	}
	if d.upTo(3) == 0 {
		q.c = api.DrillMeasure{Holes: wildPoints(d), Off: wild(d)}
	}
	for range d.upTo(14) {
		q.x.X, q.x.Y = append(q.x.X, wild(d)), append(q.x.Y, wild(d))
	}
	for range d.upTo(5) {
		q.machines = append(q.machines, wildMachine(d))
	}
	for range d.upTo(4) {
		q.buttons = append(q.buttons, api.DrillButton{Holes: wildPoints(d), Err: wild(d)})
	}
	var text []byte
	for range d.upTo(60) {
		const marks = "machine 01-23stop\nchuck wear reading end\xff"
		text = append(text, marks[d.upTo(len(marks)-1)])
	}
	q.text = string(text)
	return q
}

// P0.1: every function terminates and does not panic, for all arguments; with an error, all other results are zero values.
func TestAnyArguments(t *testing.T) {
	d := dice(43)
	questions := []question{{}, asked()}
	for range 3000 {
		questions = append(questions, wildQuestion(&d))
	}
	for _, q := range questions {
		var results []any
		for _, x := range everything(q) {
			e, ok := x.(api.Errno)
			if !ok {
				results = append(results, x)
				continue
			}
			wantError(t, "a question by chance", e, e, results...)
			results = nil
		}
	}
}

// P0.1: lists that are far too long end at once.
func TestLongLists(t *testing.T) {
	many := make([]api.DrillPoint, 1000000)
	wantError(t, "many holes", drill.Check(api.DrillMeasure{Holes: many}), api.ErrArg)
	wantError(t, "many stops", drill.Machine(api.DrillMachine{Stops: many}), api.ErrArg)
	l, e := drill.Could(machineM(), api.DrillButton{Holes: many})
	wantError(t, "many holes of a button", e, api.ErrArg, l)
	l, e = drill.Together(machineM(), slices.Repeat([]api.DrillButton{buttonD()}, 1000000))
	wantError(t, "many buttons", e, api.ErrArg, l)
	l, e = drill.Who(slices.Repeat([]api.DrillMachine{machineM()}, 1000000), buttonD())
	wantError(t, "many machines", e, api.ErrArg, l)
	is, e := drill.Fits(machineM(), api.DrillTruth{X: make([]int, 1000000), Y: make([]int, 1000000)})
	wantError(t, "long truths", e, api.ErrArg, is)
}
