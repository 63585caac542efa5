package order_test

import (
	"math"
	"reflect"
	"slices"
	"testing"

	"nacre/api"
	"nacre/order"
)

// wantFewer fails if a number of a book can mean one of the goods in it that it cannot in another one;
// it counts how often it can mean fewer.
func wantFewer(t *testing.T, name string, before, later api.OrderBook, lost map[string]int) {
	t.Helper()
	for edition := range before.Editions {
		for number := range before.Goods {
			was, e := order.Means(before, edition, number)
			is, f := order.Means(later, edition, number)
			if e != api.OK || f != api.OK && f != api.ErrRule || !isPart(is, was) {
				t.Fatalf("%s: %v: %v, %v: %v, errors %d, %d", name, before, was, later, is, e, f)
			}
			many, e := order.Numbers(before, edition, number)
			few, f := order.Numbers(later, edition, number)
			if e != api.OK || f != api.OK && f != api.ErrRule || !isPart(few, many) {
				t.Fatalf("%s: %v: %v, %v: %v, errors %d, %d", name, before, many, later, few, e, f)
			}
			if f == api.OK && len(is) < len(was) {
				lost[name]++
			}
		}
	}
}

// P9.8: one entry more, and fewer Moves, never let a number mean more, if the book is possible still.
func TestMoreIsKnown(t *testing.T) {
	d := dice(15)
	lost := map[string]int{}
	for range 500 {
		b, means := bookBy(&d, size{4, 3})
		b.Entries = b.Entries[:min(len(b.Entries), api.OrderEntries-1)]
		edition, number := d.upTo(b.Editions-1), d.upTo(len(b.Goods)-1)
		wantFewer(t, "an entry", b, with(b, entry(edition, number, means[edition][number])), lost)
		wantFewer(t, "any entry", b, with(b, entry(edition, number, d.upTo(len(b.Goods)-1))), lost)
		less := b
		less.Moves = d.upTo(b.Moves)
		wantFewer(t, "Moves", b, less, lost)
	}
	if lost["an entry"] < 200 || lost["any entry"] < 200 || lost["Moves"] < 100 {
		t.Errorf("%v", lost)
	}
}

// P9.8: a greater Stock, and one seller more, never make the best purchase cost more.
func TestMoreIsSold(t *testing.T) {
	d := dice(16)
	less := map[string]int{}
	for range 1000 {
		l, wants := marketBy(&d, d.from(1, 4), d.from(1, 5), []int{3, 40, 90}[d.upTo(2)], []int{3, 50}[d.upTo(1)])
		_, was, e := order.Buy(l, wants)
		if e != api.OK {
			continue
		}
		more := slices.Clone(l)
		i, good := d.upTo(len(l)-1), d.upTo(len(wants)-1)
		more[i].Stock = slices.Clone(l[i].Stock)
		more[i].Stock[good] += d.from(1, 10)
		_, is, e := order.Buy(more, wants)
		if e != api.OK || is > was {
			t.Fatalf("%v, %v: %d, but %d with %v, error %d", l, wants, was, is, more, e)
		}
		if is < was {
			less["Stock"]++
		}
		if len(l) == api.OrderSellers {
			continue
		}
		other, _ := marketBy(&d, 1, len(wants), 90, 50)
		_, is, e = order.Buy(slices.Insert(slices.Clone(l), d.upTo(len(l)), other...), wants)
		if e != api.OK || is > was {
			t.Fatalf("%v, %v: %d, but %d with %v, error %d", l, wants, was, is, other, e)
		}
		if is < was {
			less["a seller"]++
		}
	}
	if less["Stock"] < 100 || less["a seller"] < 100 {
		t.Errorf("%v", less)
	}
}

// question is the arguments of all functions.
type question struct {
	b               api.OrderBook
	truth           api.OrderTruth
	edition, number int
	x               api.OrderBuyer
	packs           []api.OrderPack
	pieces          int
	sellers         []api.OrderSeller
	wants           []int
	plan            [][]int
	text            string
}

// everything calls all functions, and returns all of their results.
func everything(q question) []any {
	var all []any
	add := func(results ...any) { all = append(all, results...) }
	add(order.Check(q.b))
	is, e := order.Fits(q.b, q.truth)
	add(is, e)
	l, e := order.Means(q.b, q.edition, q.number)
	add(l, e)
	l, e = order.Numbers(q.b, q.edition, q.number)
	add(l, e)
	n, e := order.Truths(q.b)
	add(n, e)
	edition, number, left, e := order.Ask(q.b)
	add(edition, number, left, e)
	reads, e := order.Reads(q.b, q.x)
	add(reads, e)
	l, e = order.Which(q.b, q.x)
	add(l, e)
	l, e = order.Odd(q.b, q.x)
	add(l, e)
	wants, e := order.Wants(q.b, q.x)
	add(wants, e)
	l, n, e = order.Packs(q.packs, q.pieces)
	add(l, n, e)
	n, e = order.Costs(q.sellers, q.wants, q.plan)
	add(n, e)
	plan, n, e := order.Buy(q.sellers, q.wants)
	add(plan, n, e)
	written, e := order.Print(q.b)
	add(written, e)
	b, e := order.Read(q.text)
	add(b, e)
	return all
}

// asked returns a question to which all functions have an answer.
func asked() question {
	return question{
		b: bookB(), truth: api.OrderTruth{Means: lists(list(1, 0, 2, 3), list(0, 1, 2, 3))}, edition: 0, number: 1, x: buyerY(),
		packs: packsP(), pieces: 155, sellers: sellersL(), wants: list(10, 5), plan: lists(list(10, 3), list(0, 2)), text: text,
	}
}

// R4 and R8: no argument is changed, results share no memory, and a second call has equal results.
func TestMemory(t *testing.T) {
	q := asked()
	first := everything(q)
	if !reflect.DeepEqual(q, asked()) {
		t.Fatal("an argument was changed")
	}
	want := everything(q)
	if !reflect.DeepEqual(first, want) {
		t.Errorf("%v, then %v", first, want)
	}
	for _, x := range first {
		if e, ok := x.(api.Errno); ok && e != api.OK {
			t.Fatalf("%v: not all have an answer", first)
		}
		spoil(reflect.ValueOf(x))
	}
	if got := everything(q); !reflect.DeepEqual(got, want) {
		t.Errorf("a result that was changed changes another one: %v, want %v", got, want)
	}
	if !reflect.DeepEqual(q, asked()) {
		t.Error("a result shares memory with an argument")
	}
	apart := map[uintptr]bool{}
	for _, x := range want {
		eachList(reflect.ValueOf(x), func(v reflect.Value) {
			if v.Len() > 0 && apart[v.Pointer()] {
				t.Errorf("two lists share memory: %v", v)
			}
			apart[v.Pointer()] = true
		})
	}
}

// eachList goes through all lists of a value, those of its elements before itself.
func eachList(v reflect.Value, visit func(reflect.Value)) {
	switch v.Kind() {
	case reflect.Slice:
		for i := range v.Len() {
			eachList(v.Index(i), visit)
		}
		visit(v)
	case reflect.Struct:
		for i := range v.NumField() {
			eachList(v.Field(i), visit)
		}
	}
}

// spoil changes all elements of all lists of a value, and what is behind their ends.
func spoil(v reflect.Value) {
	eachList(v, func(list reflect.Value) {
		room := list.Slice(0, list.Cap())
		for i := range room.Len() {
			if x := room.Index(i); x.Kind() == reflect.Int {
				x.SetInt(77)
			} else {
				x.SetZero()
			}
		}
	})
}

// R3: nil and empty lists are the same.
func TestEmptyLists(t *testing.T) {
	want := everything(question{})
	bare := question{
		b:     api.OrderBook{Goods: []api.OrderGood{}, Entries: []api.OrderEntry{}},
		truth: api.OrderTruth{Means: [][]int{}}, x: api.OrderBuyer{Letters: []api.OrderLetter{}},
		packs: []api.OrderPack{}, sellers: []api.OrderSeller{}, wants: []int{}, plan: [][]int{},
	}
	if got := everything(bare); !reflect.DeepEqual(got, want) {
		t.Errorf("%v, want %v", got, want)
	}
	q := asked()
	q.b.Entries, q.plan[1] = nil, nil
	want = everything(q)
	q.b.Entries, q.plan[1] = []api.OrderEntry{}, []int{}
	if got := everything(q); !reflect.DeepEqual(got, want) {
		t.Errorf("%v, want %v", got, want)
	}
}

// wild returns a number by chance, often one out of range.
func wild(d *dice) int {
	if d.upTo(7) == 0 {
		return []int{math.MinInt, math.MaxInt, math.MinInt + 1, math.MaxInt - 1, -1, 64, 101, 1001}[d.upTo(7)]
	}
	return d.upTo(4)
}

// wildList returns a list by chance of what is made by chance.
func wildList[T any](d *dice, most int, one func(*dice) T) []T {
	var l []T
	for range d.upTo(most) {
		l = append(l, one(d))
	}
	return l
}

func wildNumbers(d *dice) []int { return wildList(d, 6, wild) }

func wildGood(d *dice) api.OrderGood { return api.OrderGood{Line: wild(d)} }

func wildEntry(d *dice) api.OrderEntry { return entry(wild(d), wild(d), wild(d)) }

func wildBook(d *dice) api.OrderBook {
	return api.OrderBook{Goods: wildList(d, 6, wildGood), Editions: wild(d), Moves: wild(d), Entries: wildList(d, 9, wildEntry)}
}

func wildLetter(d *dice) api.OrderLetter { return letter(wild(d), wild(d), wild(d), wild(d)) }

func wildBuyer(d *dice) api.OrderBuyer {
	return api.OrderBuyer{Editions: wild(d), Letters: wildList(d, 5, wildLetter)}
}

func wildPack(d *dice) api.OrderPack { return pack(wild(d), wild(d)) }

func wildSeller(d *dice) api.OrderSeller {
	return api.OrderSeller{Parcel: wild(d), Stock: wildNumbers(d), Price: wildNumbers(d)}
}

// wildQuestion returns a question by chance, most often one to which some functions have no answer.
func wildQuestion(d *dice) question {
	q := asked()
	for range d.from(1, 3) {
		switch d.upTo(8) {
		case 0:
			q.b = wildBook(d)
		case 1:
			q.b = with(q.b, wildEntry(d))
		case 2:
			b, means := bookBy(d, size{5, 3})
			q.b, q.truth.Means = tornBy(d, b), means
			q.x, _ = buyerBy(d, b, means, true)
		case 3:
			q.truth.Means = wildList(d, 4, wildNumbers)
		case 4:
			q.edition, q.number, q.pieces = wild(d), wild(d), wild(d)
		case 5:
			q.x = wildBuyer(d)
		case 6:
			q.packs = wildList(d, 5, wildPack)
		case 7:
			q.sellers, q.wants = marketBy(d, d.from(1, 4), d.from(1, 5), 100, 1000)
			q.plan = wildList(d, 5, wildNumbers)
		case 8:
			q.sellers, q.wants = wildList(d, 5, wildSeller), wildNumbers(d)
		}
	}
	const marks = "book 01-23\ngood entry end\xff"
	q.text = string(wildList(d, 60, func(d *dice) byte { return marks[d.upTo(len(marks)-1)] }))
	return q
}

// P0.1: every function terminates and does not panic, for all arguments; with an error, all other results are zero values.
func TestAnyArguments(t *testing.T) {
	d := dice(17)
	questions := []question{{}, asked()}
	for range 3000 {
		questions = append(questions, wildQuestion(&d))
	}
	for _, q := range questions {
		var results []any
		for _, x := range everything(q) {
			e, ok := x.(api.Errno)
			if !ok {
				results = append(results, x)
				continue
			}
			wantError(t, "a question by chance", e, e, results...)
			results = nil
		}
	}
}

// P0.1: the largest books, packs and markets are answered.
func TestLargest(t *testing.T) {
	b := bareBook(5, 3, 5)
	all := list(0, 1, 2, 3, 4)
	for edition := range 3 {
		for n := range 5 {
			means, e := order.Means(b, edition, n)
			numbers, f := order.Numbers(b, edition, n)
			if e != api.OK || f != api.OK || !slices.Equal(means, all) || !slices.Equal(numbers, all) {
				t.Errorf("%v, %v, errors %d, %d", means, numbers, e, f)
			}
		}
	}
	x := buyer(7, letter(0, 1, 99, 1), letter(1, 1, 4, 10), letter(2, 2, 2, 100), letter(3, 5, 5, 1000))
	wants, e := order.Wants(b, x)
	if e != api.OK || !slices.Equal(wants, []api.Span{span(0, 10), only(100), span(0, 10), span(0, 10), only(1000)}) {
		t.Errorf("%v, error %d", wants, e)
	}
	wantRead(t, fullBook())
	if n, e := order.Truths(fullBook()); e != api.OK || n != 6*24*2 {
		t.Errorf("%d, error %d", n, e)
	}
}
