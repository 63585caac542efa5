package card_test

import (
	"math"
	"reflect"
	"slices"
	"testing"

	"nacre/api"
	"nacre/card"
)

// greater lets the Slack, the Off or a Miss of a round be greater.
func greater(d *dice, r api.CardRound) api.CardRound {
	r.Houses = slices.Clone(r.Houses)
	h := &r.Houses[d.upTo(len(r.Houses)-1)]
	switch d.upTo(2) {
	case 0:
		r.Slack = d.from(r.Slack, api.CardSlack)
	case 1:
		r.Off = d.from(r.Off, api.CardOff)
	case 2:
		h.Miss = d.from(h.Miss, api.CardMiss)
	}
	return r
}

// isWider reports whether bounds are no narrower than others.
func isWider(after, before api.Span) bool {
	return after.Low <= before.Low && after.High >= before.High
}

// P6.9: a greater Slack, Off or Miss never makes a round disagree that agreed, nor bounds narrower.
func TestGreaterSlack(t *testing.T) {
	d := dice(14)
	wider, gained := 0, 0
	for range 1500 {
		before, _ := roundBy(&d, large())
		if d.upTo(1) == 0 {
			miscount(&d, before, d.upTo(len(before.Houses)-1))
		}
		after := greater(&d, before)
		for house := range before.Houses {
			s, e := card.Mends(before, house)
			more, f := card.Mends(after, house)
			if e == api.OK && (f != api.OK || !isWider(more, s)) {
				t.Fatalf("%v, %v: the house %d %v, then %v, error %d", before, after, house, s, more, f)
			}
		}
		agreed, _ := card.Agree(before)
		agree, e := card.Agree(after)
		if e != api.OK || agreed && !agree {
			t.Fatalf("%v agrees, %v does not, error %d", before, after, e)
		}
		if !agreed {
			if agree {
				gained++
			}
			continue
		}
		known, _ := card.Known(before)
		moreKnown, e := card.Known(after)
		total, _ := card.Total(before)
		moreTotal, f := card.Total(after)
		weights, _ := card.Buttons(before)
		moreWeights, g := card.Buttons(after)
		if e != api.OK || f != api.OK || g != api.OK || !isWider(moreTotal, total) || !isWider(moreWeights, weights) || !slices.EqualFunc(moreKnown, known, isWider) {
			t.Fatalf("%v: %v, %v, %v; %v: %v, %v, %v", before, known, total, weights, after, moreKnown, moreTotal, moreWeights)
		}
		if moreTotal != total {
			wider++
		}
	}
	if wider < 100 || gained < 20 {
		t.Errorf("%d are wider, %d agree then", wider, gained)
	}
}

// P6.9: greater Bears never make a plan longer in tours.
func TestGreaterBears(t *testing.T) {
	d := dice(15)
	fewer, gained := 0, 0
	for range 1500 {
		c := roadsBy(&d)
		plan, _, e := card.Plan(c)
		c.Bears = d.from(c.Bears, min(api.CardLoad, 2*c.Bears+5))
		after, _, f := card.Plan(c)
		if e == api.OK && (f != api.OK || len(after) > len(plan)) {
			t.Fatalf("%v: %v, and it was %v, error %d", c, after, plan, f)
		}
		if e != api.OK && f == api.OK {
			gained++
		}
		if len(after) < len(plan) {
			fewer++
		}
	}
	if fewer < 100 || gained < 20 {
		t.Errorf("%d are of fewer tours, %d are possible then", fewer, gained)
	}
}

// question is the arguments of all functions.
type question struct {
	r, other   api.CardRound
	truth      api.CardTruth
	house      int
	rate, keep int
	kept, l    []int
	c          api.CardRoads
	houses     []int
	plan       [][]int
	kinds      []api.CardKind
	buttons    int
	text       string
}

// everything calls all functions, and returns all of their results.
func everything(q question) []any {
	var all []any
	add := func(results ...any) { all = append(all, results...) }
	add(card.Check(q.r))
	is, e := card.Fits(q.r, q.truth)
	add(is, e)
	is, e = card.Agree(q.r)
	add(is, e)
	spans, e := card.Known(q.r)
	add(spans, e)
	s, e := card.Total(q.r)
	add(s, e)
	s, e = card.Buttons(q.r)
	add(s, e)
	wrong, e := card.Wrong(q.other)
	add(wrong, e)
	s, e = card.Mends(q.other, q.house)
	add(s, e)
	spans, e = card.Due(q.r, q.rate, q.kept)
	add(spans, e)
	paid, left, e := card.Pay(q.rate, q.keep, q.l)
	add(paid, left, e)
	tour, n, e := card.Tour(q.c, q.houses)
	add(tour, n, e)
	is, n, e = card.Keeps(q.c, q.plan)
	add(is, n, e)
	plan, n, e := card.Plan(q.c)
	add(plan, n, e)
	taken, n, e := card.Fill(q.kinds, q.buttons)
	add(taken, n, e)
	written, e := card.Print(q.r)
	add(written, e)
	r, e := card.Read(q.text)
	add(r, e)
	return all
}

// asked returns a question to which all functions have an answer.
func asked() question {
	return question{
		r: roundR(), other: roundQ(), truth: truthR(4, 3, 7, 9), house: 0, rate: 10, keep: 100, kept: []int{89, 99}, l: []int{50, 94, 50},
		c: roadsC(), houses: []int{1, 2}, plan: [][]int{{2, 1}, {3}}, kinds: kinds(24, 2, 12, 3, 5, 4), buttons: 53, text: text,
	}
}

// R4 and R8: no argument is changed, results share no memory, and a second call has equal results.
func TestMemory(t *testing.T) {
	q := asked()
	first := everything(q)
	if !reflect.DeepEqual(q, asked()) {
		t.Fatal("an argument was changed")
	}
	want := everything(q)
	if !reflect.DeepEqual(first, want) {
		t.Errorf("%v, then %v", first, want)
	}
	for _, x := range first {
		if e, ok := x.(api.Errno); ok && e != api.OK {
			t.Fatalf("%v: not all have an answer", first)
		}
		spoil(reflect.ValueOf(x))
	}
	if got := everything(q); !reflect.DeepEqual(got, want) {
		t.Errorf("a result that was changed changes another one: %v, want %v", got, want)
	}
	if !reflect.DeepEqual(q, asked()) {
		t.Error("a result shares memory with an argument")
	}
	apart := map[uintptr]bool{}
	for _, x := range want {
		lists(reflect.ValueOf(x), func(v reflect.Value) {
			if v.Len() > 0 && apart[v.Pointer()] {
				t.Errorf("two lists share memory: %v", v)
			}
			apart[v.Pointer()] = true
		})
	}
}

// lists goes through all lists of a value, those of its elements before itself.
func lists(v reflect.Value, visit func(reflect.Value)) {
	switch v.Kind() {
	case reflect.Slice:
		for i := range v.Len() {
			lists(v.Index(i), visit)
		}
		visit(v)
	case reflect.Struct:
		for i := range v.NumField() {
			lists(v.Field(i), visit)
		}
	}
}

// spoil changes all elements of all lists of a value, and what is behind their ends.
func spoil(v reflect.Value) {
	lists(v, func(list reflect.Value) {
		room := list.Slice(0, list.Cap())
		for i := range room.Len() {
			if x := room.Index(i); x.Kind() == reflect.Int {
				x.SetInt(77)
			} else {
				x.SetZero()
			}
		}
	})
}

// R3: nil and empty lists are the same.
func TestEmptyLists(t *testing.T) {
	want := everything(question{})
	bare := question{
		r: api.CardRound{Houses: []api.CardHouse{}}, other: api.CardRound{Houses: []api.CardHouse{}}, truth: api.CardTruth{Full: []int{}, Loose: []int{}},
		kept: []int{}, l: []int{}, c: api.CardRoads{Loads: []int{}, Far: [][]int{}}, houses: []int{}, plan: [][]int{}, kinds: []api.CardKind{},
	}
	if got := everything(bare); !reflect.DeepEqual(got, want) {
		t.Errorf("%v, want %v", got, want)
	}
	q := asked()
	q.l, q.houses, q.plan, q.kinds = nil, nil, nil, nil
	want = everything(q)
	q.l, q.houses, q.plan, q.kinds = []int{}, []int{}, [][]int{}, []api.CardKind{}
	if got := everything(q); !reflect.DeepEqual(got, want) {
		t.Errorf("%v, want %v", got, want)
	}
	q.plan = [][]int{nil, {2, 1}, {3}}
	want = everything(q)
	q.plan[0] = []int{}
	if got := everything(q); !reflect.DeepEqual(got, want) {
		t.Errorf("%v, want %v", got, want)
	}
}

// wild returns a number by chance, often one out of range.
func wild(d *dice) int {
	if d.upTo(7) == 0 {
		return []int{math.MinInt, math.MaxInt, math.MinInt + 1, math.MaxInt - 1, -1, 64, 144, 3001}[d.upTo(7)]
	}
	return d.upTo(4)
}

// wildList returns a list by chance of what is made by chance.
func wildList[T any](d *dice, most int, one func(*dice) T) []T {
	var l []T
	for range d.upTo(most) {
		l = append(l, one(d))
	}
	return l
}

func wildNumbers(d *dice) []int { return wildList(d, 5, wild) }

func wildHouse(d *dice) api.CardHouse {
	return api.CardHouse{Out: wild(d), Cards: wild(d), Full: wild(d), Loose: wild(d), Miss: wild(d), Weighed: wild(d)}
}

func wildKind(d *dice) api.CardKind { return api.CardKind{Holds: wild(d), Many: wild(d)} }

func wildRound(d *dice) api.CardRound {
	r := api.CardRound{Per: wild(d), Button: span(wild(d), wild(d)), Card: wild(d), Slack: wild(d), All: wild(d), Off: wild(d)}
	r.Houses = wildList(d, 5, wildHouse)
	return r
}

// wildQuestion returns a question by chance, most often one to which some functions have no answer.
func wildQuestion(d *dice) question {
	q := asked()
	for range d.from(1, 3) {
		switch d.upTo(9) {
		case 0:
			q.r = wildRound(d)
		case 1:
			q.other = wildRound(d)
		case 2:
			q.r.Houses, q.other.Houses = wildList(d, 5, wildHouse), wildList(d, 5, wildHouse)
		case 3:
			q.truth = api.CardTruth{Button: wild(d), Full: wildNumbers(d), Loose: wildNumbers(d)}
		case 4:
			q.house, q.rate, q.keep, q.buttons = wild(d), wild(d), wild(d), wild(d)
		case 5:
			q.kept, q.l, q.houses = wildNumbers(d), wildNumbers(d), wildNumbers(d)
		case 6:
			q.c = api.CardRoads{Loads: wildNumbers(d), Bears: wild(d), Far: wildList(d, 5, wildNumbers)}
		case 7:
			q.c.Loads[d.upTo(2)], q.c.Bears, q.c.Far[d.upTo(3)%len(q.c.Far)] = wild(d), wild(d), wildNumbers(d)
		case 8:
			q.plan = wildList(d, 4, wildNumbers)
		case 9:
			q.kinds = wildList(d, 5, wildKind)
		}
		if len(q.c.Loads) < 3 || len(q.c.Far) == 0 {
			q.c = roadsC()
		}
	}
	const marks = "round 01-23\nweigh house all end\xff"
	q.text = string(wildList(d, 60, func(d *dice) byte { return marks[d.upTo(len(marks)-1)] }))
	return q
}

// P0.1: every function terminates and does not panic, for all arguments; with an error, all other results are zero values.
func TestAnyArguments(t *testing.T) {
	d := dice(16)
	questions := []question{{}, asked()}
	for range 5000 {
		questions = append(questions, wildQuestion(&d))
	}
	for _, q := range questions {
		var results []any
		for _, x := range everything(q) {
			e, ok := x.(api.Errno)
			if !ok {
				results = append(results, x)
				continue
			}
			wantError(t, "a question by chance", e, e, results...)
			results = nil
		}
	}
}

// P0.1: the largest rounds, roads and orders are answered.
func TestLargest(t *testing.T) {
	h := api.CardHouse{Out: 3000, Cards: 60, Full: 30, Loose: 18, Miss: 3, Weighed: 3000}
	r := api.CardRound{Per: 36, Button: span(1, 5), Slack: 500, Off: 100, All: 4000, Houses: slices.Repeat([]api.CardHouse{h}, 4)}
	wantTold(t, r, summed(r, nobody))
	for house := range r.Houses {
		r.Houses[house].Full = 60
	}
	wantTold(t, r, summed(r, nobody))
	wantWrong(t, r, summed(r, nobody), summed)
	c := api.CardRoads{Loads: make([]int, 5), Far: slices.Repeat([][]int{slices.Repeat([]int{1000}, 6)}, 6)}
	if plan, n, e := card.Plan(c); e != api.OK || n != 6000 || len(plan) != 1 {
		t.Errorf("%v, %d, error %d", plan, n, e)
	}
	if taken, n, e := card.Fill(kinds(1, 20, 1, 20, 1, 20, 1, 20), 40); e != api.OK || n != 40 || !slices.Equal(taken, []int{0, 0, 20, 20}) {
		t.Errorf("%v, %d, error %d", taken, n, e)
	}
}
