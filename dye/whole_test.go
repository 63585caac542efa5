package dye_test

import (
	"math"
	"math/bits"
	"reflect"
	"slices"
	"testing"

	"nacre/api"
	"nacre/dye"
)

// narrowed returns a house of which some takes are known better.
func narrowed(d *dice, h api.DyeHouse) api.DyeHouse {
	var better api.DyeHouse
	for _, x := range h.Dyes {
		takes := slices.Clone(x.Takes)
		for i, s := range takes {
			if d.upTo(1) == 0 {
				takes[i] = d.within(s)
			}
		}
		better.Dyes = append(better.Dyes, dyeOf(x.Full, takes...))
	}
	return better
}

// narrowedBatch returns a batch of which some hours are known better.
func narrowedBatch(d *dice, l baths) baths {
	better := slices.Clone(l)
	for i, b := range better {
		if d.upTo(1) == 0 {
			better[i].Hours = d.within(b.Hours)
		}
	}
	return better
}

// P4.11: takes and hours that are known better never make looks and differences wider, nor a word unsure that was sure.
func TestKnownBetter(t *testing.T) {
	d := dice(16)
	narrower, surer := 0, 0
	for range 500 {
		h := houseBy(&d, 99)
		a, b, lamps := batchBy(&d, h, 0, 99), batchBy(&d, h, 0, 99), lampsBy(&d, h)
		eye := d.span(0, api.DyeEye, api.DyeVary)
		better, c := narrowed(&d, h), narrowedBatch(&d, a)
		before, e := dye.Words(h, lamps, a, b, eye)
		after, f := dye.Words(better, lamps, c, b, eye)
		if e != api.OK || f != api.OK {
			t.Fatal(h, better, a, c, b, e, f)
		}
		for i, x := range lamps {
			look, _ := dye.Look(h, x, a)
			apart, _ := dye.Apart(h, x, a, b)
			newLook, _ := dye.Look(better, x, c)
			newApart, _ := dye.Apart(better, x, c, b)
			if !isIn(newLook, look) || !isIn(newApart, apart) {
				t.Fatalf("%v, %v, %v, %v: %v and %v, and of %v, %v %v and %v", h, x, a, b, look, apart, better, c, newLook, newApart)
			}
			if newApart != apart {
				narrower++
			}
			if before[i] != may && after[i] != before[i] {
				t.Fatalf("%v, %v, %v, %v, %v: the word was %d, and is %d of %v, %v", h, x, a, b, eye, before[i], after[i], better, c)
			}
			if after[i] != before[i] {
				surer++
			}
		}
	}
	if narrower < 50 || surer < 10 {
		t.Errorf("%d narrower, %d surer", narrower, surer)
	}
}

// P4.11: a greater Many, or a lesser Need, never makes the best set have more stocks.
func TestMoreButtons(t *testing.T) {
	d := dice(17)
	fewer := 0
	for range 300 {
		h := houseBy(&d, 99)
		c, l := coatBy(&d, h, 99)
		before, e := dye.Coat(h, c, l)
		if d.upTo(1) == 0 {
			c.Need = d.from(1, c.Need)
		} else {
			i := d.upTo(len(l) - 1)
			l[i].Many = d.from(l[i].Many, api.DyeMany)
		}
		after, f := dye.Coat(h, c, l)
		if e != api.OK {
			continue
		}
		less := bits.OnesCount(uint(before)) - bits.OnesCount(uint(after))
		if f != api.OK || less < 0 {
			t.Fatalf("%v, %v, %v: the set was %d, and is %d, error %d", h, c, l, before, after, f)
		}
		if less > 0 {
			fewer++
		}
	}
	if fewer < 10 {
		t.Errorf("%d sets have fewer stocks", fewer)
	}
}

// question is the arguments of all functions.
type question struct {
	h                 api.DyeHouse
	a, b              baths
	x                 api.DyeTruth
	lamp              api.DyeLamp
	lamps             []api.DyeLamp
	eye, want         api.Span
	dye, temper, set  int
	coat              api.DyeCoat
	stocks            []api.DyeStock
	sorter            api.DyeSorter
	looks, trays      []int
	look, first, next int
	text              string
}

// everything calls all functions, and returns all of their results.
func everything(q question) []any {
	var all []any
	add := func(results ...any) { all = append(all, results...) }
	add(dye.Check(q.h))
	is, e := dye.Fits(q.h, q.a, q.x)
	add(is, e)
	depths, e := dye.Run(q.h, q.a, q.x)
	add(depths, e)
	known, e := dye.Known(q.h, q.a)
	add(known, e)
	s, e := dye.Look(q.h, q.lamp, q.a)
	add(s, e)
	s, e = dye.Apart(q.h, q.lamp, q.a, q.b)
	add(s, e)
	words, e := dye.Words(q.h, q.lamps, q.a, q.b, q.eye)
	add(words, e)
	s, e = dye.Ripe(q.h, q.lamp, q.a, q.dye, q.temper, q.want)
	add(s, e)
	is, e = dye.Suits(q.h, q.coat, q.stocks, q.set)
	add(is, e)
	set, e := dye.Coat(q.h, q.coat, q.stocks)
	add(set, e)
	add(dye.Sorter(q.sorter))
	trays, e := dye.Lay(q.sorter, q.looks, q.look)
	add(trays, e)
	looks, eye, e := dye.Proves(q.sorter, q.trays)
	add(looks, eye, e)
	word, e := dye.Together(q.sorter, q.first, q.next)
	add(word, e)
	text, e := dye.Print(q.h, q.stocks)
	add(text, e)
	house, stocks, e := dye.Read(q.text)
	add(house, stocks, e)
	return all
}

// asked returns a question to which all functions have an answer.
func asked() question {
	q := question{
		h: houseH(), a: batchA(), b: batchB(), x: api.DyeTruth{Takes: [][]int{{2, 5, 8}, {1, 2, 4}}, Hours: []int{4, 3}},
		lamp: day(), lamps: []api.DyeLamp{day(), gas()}, eye: span(6, 8), want: span(18, 30), dye: 1, temper: 2, set: 5,
		coat: coatC(), stocks: stocksOfLines(), sorter: sorterS(), looks: []int{10, 14, 17}, trays: []int{0, 0, 1}, look: 3, first: 1, next: 2,
	}
	q.text = sealed(linesC()...)
	return q
}

// R4 and R8: no argument is changed, results share no memory, and a second call has equal results.
func TestMemory(t *testing.T) {
	q := asked()
	first := everything(q)
	if !reflect.DeepEqual(q, asked()) {
		t.Fatal("an argument was changed")
	}
	want := everything(q)
	if !reflect.DeepEqual(first, want) {
		t.Errorf("%v, then %v", first, want)
	}
	for _, x := range first {
		if e, ok := x.(api.Errno); ok && e != api.OK {
			t.Fatalf("%v: not all have an answer", first)
		}
		spoil(reflect.ValueOf(x))
	}
	if got := everything(q); !reflect.DeepEqual(got, want) {
		t.Errorf("a result that was changed changes another one: %v, want %v", got, want)
	}
	if !reflect.DeepEqual(q, asked()) {
		t.Error("a result shares memory with an argument")
	}
	apart := map[uintptr]bool{}
	for _, x := range want {
		lists(reflect.ValueOf(x), func(v reflect.Value) {
			if v.Len() > 0 && apart[v.Pointer()] {
				t.Errorf("two lists share memory: %v", v)
			}
			apart[v.Pointer()] = true
		})
	}
}

// lists goes through all lists of a value, those of its elements before itself.
func lists(v reflect.Value, visit func(reflect.Value)) {
	switch v.Kind() {
	case reflect.Slice:
		for i := range v.Len() {
			lists(v.Index(i), visit)
		}
		visit(v)
	case reflect.Struct:
		for i := range v.NumField() {
			lists(v.Field(i), visit)
		}
	}
}

// spoil changes all elements of all lists of a value, and what is behind their ends.
func spoil(v reflect.Value) {
	lists(v, func(list reflect.Value) {
		room := list.Slice(0, list.Cap())
		for i := range room.Len() {
			if x := room.Index(i); x.Kind() == reflect.Int {
				x.SetInt(77)
			} else {
				x.SetZero()
			}
		}
	})
}

// R3: nil and empty lists are the same.
func TestEmptyLists(t *testing.T) {
	q := asked()
	q.b, q.stocks[2].Baths = nil, nil
	want := everything(q)
	q.b, q.stocks[2].Baths = baths{}, baths{}
	if got := everything(q); !reflect.DeepEqual(got, want) {
		t.Errorf("%v, want %v", got, want)
	}
	want = everything(question{})
	bare := question{
		h: api.DyeHouse{Dyes: []api.DyeDye{}}, a: baths{}, b: baths{}, x: api.DyeTruth{Takes: [][]int{}, Hours: []int{}},
		lamp: api.DyeLamp{Weights: []int{}}, lamps: []api.DyeLamp{}, coat: api.DyeCoat{Lamps: []api.DyeLamp{}, Old: []api.Span{}},
		stocks: []api.DyeStock{}, sorter: api.DyeSorter{Looks: []api.Span{}}, looks: []int{}, trays: []int{},
	}
	if got := everything(bare); !reflect.DeepEqual(got, want) {
		t.Errorf("%v, want %v", got, want)
	}
}

// wild returns a number by chance, often one out of range.
func wild(d *dice) int {
	if d.upTo(7) == 0 {
		return []int{math.MinInt, math.MaxInt, math.MinInt + 1, math.MaxInt - 1, -1, 13, 201, 3001}[d.upTo(7)]
	}
	return d.upTo(3)
}

// wildSpan returns a span by chance, often one that is none.
func wildSpan(d *dice) api.Span { return span(wild(d), wild(d)) }

// wildList returns a list by chance of what is made by chance.
func wildList[T any](d *dice, most int, one func(*dice) T) []T {
	var l []T
	for range d.upTo(most) {
		l = append(l, one(d))
	}
	return l
}

func wildBath(d *dice) api.DyeBath { return bath(d.upTo(1), wild(d), wild(d), wild(d)) }

func wildStock(d *dice) api.DyeStock { return stock(wildList(d, 3, wildBath), wild(d), wild(d)) }

func wildLamp(d *dice) api.DyeLamp { return lamp(wildList(d, 3, wild)...) }

// wildQuestion returns a question by chance, most often one to which some functions have no answer.
func wildQuestion(d *dice) question {
	q := asked()
	for range d.from(1, 3) {
		switch d.upTo(9) {
		case 0:
			q.h.Dyes = append(q.h.Dyes, dyeOf(wild(d), wildList(d, 4, wildSpan)...))
		case 1:
			q.h.Dyes[d.upTo(1)].Takes[d.upTo(2)] = wildSpan(d)
		case 2:
			q.a, q.b = wildList(d, 4, wildBath), wildList(d, 4, wildBath)
		case 3:
			q.x = api.DyeTruth{Takes: wildList(d, 3, func(d *dice) []int { return wildList(d, 4, wild) }), Hours: wildList(d, 3, wild)}
		case 4:
			q.lamp, q.lamps = wildLamp(d), wildList(d, 4, wildLamp)
		case 5:
			q.eye, q.want, q.look = wildSpan(d), wildSpan(d), wild(d)
		case 6:
			q.dye, q.temper, q.set, q.first, q.next = wild(d), wild(d), wild(d), wild(d), wild(d)
		case 7:
			q.coat = api.DyeCoat{Lamps: wildList(d, 4, wildLamp), Eye: wildSpan(d), Old: wildList(d, 4, wildSpan), Need: wild(d)}
		case 8:
			q.stocks = wildList(d, 6, wildStock)
		case 9:
			q.sorter = api.DyeSorter{Eye: wildSpan(d), Tire: wild(d), Looks: wildList(d, 5, wildSpan)}
			q.looks, q.trays = wildList(d, 5, wild), wildList(d, 5, wild)
		}
	}
	var text []byte
	for range d.upTo(60) {
		const marks = "house 01-23\ndye stock bath end\xff"
		text = append(text, marks[d.upTo(len(marks)-1)])
	}
	q.text = string(text)
	return q
}

// P0.1: every function terminates and does not panic, for all arguments; with an error, all other results are zero values.
func TestAnyArguments(t *testing.T) {
	d := dice(18)
	questions := []question{{}, asked()}
	for range 3000 {
		questions = append(questions, wildQuestion(&d))
	}
	for _, q := range questions {
		var results []any
		for _, x := range everything(q) {
			e, ok := x.(api.Errno)
			if !ok {
				results = append(results, x)
				continue
			}
			wantError(t, "a question by chance", e, e, results...)
			results = nil
		}
	}
}

// P0.1: what is least known of all has an answer too.
func TestLeastKnown(t *testing.T) {
	h, l := fullHouse()
	wide := []api.Span{span(2, 4), span(9, 11), span(16, 18)}
	h.Dyes[2] = dyeOf(100, wide...)
	for i := range l {
		l[i].Baths = baths{bath(2, i%3, 0, 2), bath(2, (i+1)%3, 0, 2), bath(2, (i+2)%3, 0, 2)}
	}
	c := api.DyeCoat{Lamps: slices.Repeat([]api.DyeLamp{lamp(9, -9, 9), lamp(1, 1, 2)}, 2)[:3], Eye: only(200), Old: slices.Repeat([]api.Span{only(150)}, 3), Need: 300}
	set, e := dye.Coat(h, c, l)
	wantError(t, "far apart", e, api.ErrNone, set)
	apart, e := dye.Apart(h, c.Lamps[0], l[0].Baths, l[1].Baths)
	if e != api.OK || apart != span(-594, 594) {
		t.Errorf("%v, error %d", apart, e)
	}
	s := sorterOf(span(0, 4), 0, slices.Repeat([]api.Span{span(0, 6)}, 4)...)
	looks, eye, e := dye.Proves(s, []int{0, 1, 2, 3})
	if e != api.OK || !slices.Equal(looks, s.Looks) || eye != span(0, 1) {
		t.Errorf("%v and %v, error %d", looks, eye, e)
	}
}
