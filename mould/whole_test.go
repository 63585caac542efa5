package mould_test

import (
	"math"
	"reflect"
	"slices"
	"testing"

	"nacre/api"
	"nacre/mould"
)

// lessMisread lets the Miss or the Ghost of a book be less.
func lessMisread(d *dice, b api.MouldBook) api.MouldBook {
	b.Miss, b.Ghost = d.upTo(b.Miss), d.upTo(b.Ghost)
	return b
}

// known lets some of each First, of the Strikes and of the days of a book be known more closely.
func known(d *dice, b api.MouldBook) api.MouldBook {
	closer := func(s *api.Span) {
		if d.upTo(1) == 0 {
			s.Low = d.in(*s)
			s.High = d.in(*s)
		}
	}
	b.Moulds = slices.Clone(b.Moulds)
	for n := range b.Moulds {
		m := &b.Moulds[n]
		m.Marks, m.Loans = slices.Clone(m.Marks), slices.Clone(m.Loans)
		for i := range m.Marks {
			closer(&m.Marks[i].First)
		}
		for i := range m.Loans {
			closer(&m.Loans[i].Strikes)
			closer(&m.Loans[i].From)
		}
	}
	return b
}

// isPart reports whether all numbers of a list are in another one.
func isPart(some, all []int) bool {
	return !slices.ContainsFunc(some, func(n int) bool { return !slices.Contains(all, n) })
}

// isInside reports whether a span lies in another one.
func isInside(s, of api.Span) bool { return s.Low >= of.Low && s.High <= of.High }

// wantLess fails if more can be of one book than of another one.
func wantLess(t *testing.T, d *dice, before, after api.MouldBook) (fewer, gained int) {
	t.Helper()
	x := truthBy(d, before)
	n := d.upTo(len(before.Moulds) - 1)
	for range 4 {
		f := find(misread(d, before, hasIn(before, x, n, d.from(1, 30))), d.upTo(40))
		g := find(misread(d, before, hasIn(before, x, n, d.from(1, 30))), d.upTo(40))
		could, _ := mould.Could(before, f)
		lessCould, e := mould.Could(after, f)
		who, _ := mould.Who(before, f)
		lessWho, _ := mould.Who(after, f)
		twice, _ := mould.Twice(before, f, g)
		lessTwice, _ := mould.Twice(after, f, g)
		if e != api.OK || !isPart(lessCould, could) || !isPart(lessWho, who) || !isPart(lessTwice, twice) {
			t.Fatalf("%v, %v, %v: %v, %v, %v; %v: %v, %v, %v, error %d", before, f, g, could, who, twice, after, lessCould, lessWho, lessTwice, e)
		}
		s, e := mould.Between(before, f, n)
		less, lessE := mould.Between(after, f, n)
		if lessE == api.OK && (e != api.OK || !isInside(less, s)) {
			t.Fatalf("%v, %v, %d: %v, %v: %v", before, f, n, s, after, less)
		}
		strike := d.from(1, 30)
		proved, e := mould.Proves(before, n, strike, f.Seen)
		lessProved, lessE := mould.Proves(after, n, strike, f.Seen)
		if lessE == api.OK && (e != api.OK || !slices.EqualFunc(lessProved, proved, isInside)) {
			t.Fatalf("%v, %v, %d, %d: %v, %v: %v", before, f, n, strike, proved, after, lessProved)
		}
		if len(lessCould) < len(could) {
			fewer++
		}
	}
	gone, _ := mould.Withdraw(before)
	lessGone, _ := mould.Withdraw(after)
	for _, list := range lists(len(before.Moulds)) {
		clear, _ := mould.Clear(before, list)
		still, e := mould.Clear(after, list)
		if e != api.OK || clear && !still {
			t.Fatalf("%v without %v is clear, %v is not, error %d", before, list, after, e)
		}
		if still && !clear {
			gained++
		}
	}
	if len(lessGone) > len(gone) {
		t.Fatalf("%v: %v, %v: %v", before, gone, after, lessGone)
	}
	return fewer, gained
}

// P7.9: if less is misread, no mould can have stamped a find that could not before, and moulds that were clear are.
func TestLessMisread(t *testing.T) {
	d := dice(16)
	fewer, gained := 0, 0
	for range 400 {
		before := bookBy(&d, early(&d))
		n, m := wantLess(t, &d, before, lessMisread(&d, before))
		fewer, gained = fewer+n, gained+m
	}
	if fewer < 50 || gained < 50 {
		t.Errorf("%d can be less, %d are clear then", fewer, gained)
	}
}

// P7.9: what is known more closely does no more.
func TestKnownMore(t *testing.T) {
	d := dice(17)
	fewer, gained, closer := 0, 0, 0
	for range 600 {
		before := bookBy(&d, early(&d))
		if d.upTo(1) == 0 {
			before.Miss, before.Ghost = 0, 0
		}
		after := known(&d, before)
		if _, e := mould.Withdraw(after); e == api.ErrRule {
			continue
		}
		n, m := wantLess(t, &d, before, after)
		fewer, gained = fewer+n, gained+m
		for strike := 1; strike <= api.MouldStrikes; strike++ {
			if wantCloser(t, d.upTo(len(before.Moulds)-1), strike, before, after) {
				closer++
			}
		}
	}
	if fewer < 50 || gained < 20 || closer < 200 {
		t.Errorf("%d can be less, %d are clear then, of %d more is known", fewer, gained, closer)
	}
}

// wantCloser fails if less is known of a strike of one book than of another one; it reports whether more is.
func wantCloser(t *testing.T, n, strike int, before, after api.MouldBook) bool {
	t.Helper()
	was, could, _ := mould.Known(before, n, strike)
	sure, can, e := mould.Known(after, n, strike)
	if e != api.OK || was&^sure != 0 || can&^could != 0 {
		t.Fatalf("%v, %d, %d: %d, %d; %v: %d, %d, error %d", before, n, strike, was, could, after, sure, can, e)
	}
	had, _ := mould.Had(before, n, strike)
	less, _ := mould.Had(after, n, strike)
	if !isPart(less, had) {
		t.Fatalf("%v, %d, %d: %v; %v: %v", before, n, strike, had, after, less)
	}
	return sure != was || can != could || len(less) < len(had)
}

// question is the arguments of all functions.
type question struct {
	b                         api.MouldBook
	truth                     api.MouldTruth
	mould, other, strike, set int
	f, g                      api.MouldFind
	gone                      []int
	text                      string
}

// everything calls all functions, and returns all of their results.
func everything(q question) []any {
	var all []any
	add := func(results ...any) { all = append(all, results...) }
	add(mould.Check(q.b))
	is, e := mould.Fits(q.b, q.truth)
	add(is, e)
	n, e := mould.Marks(q.b, q.truth, q.mould, q.strike)
	add(n, e)
	sure, can, e := mould.Known(q.b, q.mould, q.strike)
	add(sure, can, e)
	l, e := mould.Had(q.b, q.mould, q.strike)
	add(l, e)
	l, e = mould.Could(q.b, q.f)
	add(l, e)
	s, e := mould.Between(q.b, q.f, q.mould)
	add(s, e)
	l, e = mould.Who(q.b, q.f)
	add(l, e)
	l, e = mould.Twice(q.b, q.f, q.g)
	add(l, e)
	spans, e := mould.Proves(q.b, q.mould, q.strike, q.set)
	add(spans, e)
	n, e = mould.Confused(q.b, q.mould, q.other)
	add(n, e)
	is, e = mould.Clear(q.b, q.gone)
	add(is, e)
	l, e = mould.Withdraw(q.b)
	add(l, e)
	written, e := mould.Print(q.b)
	add(written, e)
	b, e := mould.Read(q.text)
	add(b, e)
	return all
}

// asked returns a question to which all functions have an answer.
func asked() question {
	return question{
		b: bookB(), truth: truthB(func(*api.MouldTruth) {}), mould: 0, other: 1, strike: 6, set: 1,
		f: find(3, 9), g: find(1, 9), gone: list(0), text: sealed(linesB()...),
	}
}

// R4 and R8: no argument is changed, results share no memory, and a second call has equal results.
func TestMemory(t *testing.T) {
	q := asked()
	first := everything(q)
	if !reflect.DeepEqual(q, asked()) {
		t.Fatal("an argument was changed")
	}
	want := everything(q)
	if !reflect.DeepEqual(first, want) {
		t.Errorf("%v, then %v", first, want)
	}
	for _, x := range first {
		if e, ok := x.(api.Errno); ok && e != api.OK {
			t.Fatalf("%v: not all have an answer", first)
		}
		spoil(reflect.ValueOf(x))
	}
	if got := everything(q); !reflect.DeepEqual(got, want) {
		t.Errorf("a result that was changed changes another one: %v, want %v", got, want)
	}
	if !reflect.DeepEqual(q, asked()) {
		t.Error("a result shares memory with an argument")
	}
	apart := map[uintptr]bool{}
	for _, x := range want {
		eachList(reflect.ValueOf(x), func(v reflect.Value) {
			if v.Len() > 0 && apart[v.Pointer()] {
				t.Errorf("two lists share memory: %v", v)
			}
			apart[v.Pointer()] = true
		})
	}
}

// eachList goes through all lists of a value, those of its elements before itself.
func eachList(v reflect.Value, visit func(reflect.Value)) {
	switch v.Kind() {
	case reflect.Slice:
		for i := range v.Len() {
			eachList(v.Index(i), visit)
		}
		visit(v)
	case reflect.Struct:
		for i := range v.NumField() {
			eachList(v.Field(i), visit)
		}
	}
}

// spoil changes all elements of all lists of a value, and what is behind their ends.
func spoil(v reflect.Value) {
	eachList(v, func(list reflect.Value) {
		room := list.Slice(0, list.Cap())
		for i := range room.Len() {
			if x := room.Index(i); x.Kind() == reflect.Int {
				x.SetInt(77)
			} else {
				x.SetZero()
			}
		}
	})
}

// R3: nil and empty lists are the same.
func TestEmptyLists(t *testing.T) {
	want := everything(question{})
	bare := question{
		b: api.MouldBook{Moulds: []api.MouldMould{}}, gone: []int{},
		truth: api.MouldTruth{First: [][]int{}, Cut: []int{}, Strikes: [][]int{}, Days: [][]int{}},
	}
	if got := everything(bare); !reflect.DeepEqual(got, want) {
		t.Errorf("%v, want %v", got, want)
	}
	q := asked()
	q.b.Moulds[1].Marks, q.truth.First[1], q.gone = nil, nil, nil
	want = everything(q)
	q.b.Moulds[1].Marks, q.truth.First[1], q.gone = []api.MouldMark{}, []int{}, []int{}
	if got := everything(q); !reflect.DeepEqual(got, want) {
		t.Errorf("%v, want %v", got, want)
	}
}

// wild returns a number by chance, often one out of range.
func wild(d *dice) int {
	if d.upTo(7) == 0 {
		return []int{math.MinInt, math.MaxInt, math.MinInt + 1, math.MaxInt - 1, -1, 64, 256, 37}[d.upTo(7)]
	}
	return d.upTo(4)
}

// wildList returns a list by chance of what is made by chance.
func wildList[T any](d *dice, most int, one func(*dice) T) []T {
	var l []T
	for range d.upTo(most) {
		l = append(l, one(d))
	}
	return l
}

func wildNumbers(d *dice) []int { return wildList(d, 3, wild) }

func wildSpan(d *dice) api.Span { return span(wild(d), wild(d)) }

func wildMark(d *dice) api.MouldMark { return api.MouldMark{Spot: wild(d), First: wildSpan(d)} }

func wildLoan(d *dice) api.MouldLoan {
	return api.MouldLoan{House: wild(d), Strikes: wildSpan(d), From: wildSpan(d)}
}

func wildMould(d *dice) api.MouldMould {
	return api.MouldMould{Parent: wild(d), Cut: wildSpan(d), Marks: wildList(d, 5, wildMark), Loans: wildList(d, 4, wildLoan)}
}

func wildTruth(d *dice) api.MouldTruth {
	return api.MouldTruth{First: wildList(d, 2, wildNumbers), Cut: wildNumbers(d), Strikes: wildList(d, 2, wildNumbers), Days: wildList(d, 2, wildNumbers)}
}

// wildQuestion returns a question by chance, most often one to which some functions have no answer.
func wildQuestion(d *dice) question {
	q := asked()
	for range d.from(1, 3) {
		switch d.upTo(8) {
		case 0:
			q.b = api.MouldBook{Miss: wild(d), Ghost: wild(d), Moulds: wildList(d, 6, wildMould)}
		case 1:
			q.b.Moulds = append(q.b.Moulds, wildMould(d))
		case 2:
			q.b = bookBy(d, large())
		case 3:
			for i := range q.b.Moulds {
				q.b.Moulds[i].Parent, q.b.Moulds[i].Cut = wild(d), wildSpan(d)
			}
		case 4:
			for i := range q.b.Moulds {
				q.b.Moulds[i].Marks, q.b.Moulds[i].Loans = wildList(d, 5, wildMark), wildList(d, 4, wildLoan)
			}
		case 5:
			q.truth = wildTruth(d)
		case 6:
			q.mould, q.other, q.strike, q.set = wild(d), wild(d), wild(d), wild(d)
		case 7:
			q.f, q.g = find(wild(d), wild(d)), find(wild(d), wild(d))
		case 8:
			q.gone = wildNumbers(d)
		}
	}
	const marks = "book 01-23\nmould mark loan from end\xff"
	q.text = string(wildList(d, 60, func(d *dice) byte { return marks[d.upTo(len(marks)-1)] }))
	return q
}

// P0.1: every function terminates and does not panic, for all arguments; with an error, all other results are zero values.
func TestAnyArguments(t *testing.T) {
	d := dice(18)
	questions := []question{{}, asked()}
	for range 4000 {
		questions = append(questions, wildQuestion(&d))
	}
	for _, q := range questions {
		var results []any
		for _, x := range everything(q) {
			e, ok := x.(api.Errno)
			if !ok {
				results = append(results, x)
				continue
			}
			wantError(t, "a question by chance", e, e, results...)
			results = nil
		}
	}
}

// P0.1: the largest books are answered.
func TestLargest(t *testing.T) {
	b := fullBook()
	checkWithdrawal(t, b, ledOf(b))
	all := list(0, 1, 2, 3, 4)
	wantFinds(t, "the most", b, find(1, 0), 1, all, list(1, 2, 3, 4, 5), span(1, 35))
	b.Miss, b.Ghost = 0, 0
	if got, e := mould.Twice(b, find(0xf1, 0), find(0xf7, 99)); e != api.OK || !slices.Equal(got, list(1, 2, 3, 4)) {
		t.Errorf("%v, error %d", got, e)
	}
	if got, e := mould.Twice(b, find(0xf3, 0), find(0xf1, 99)); e != api.OK || len(got) > 0 {
		t.Errorf("%v, error %d", got, e)
	}
	b = deepBook()
	if sure, can, e := mould.Known(b, 4, 1); e != api.OK || sure != 0x07 || can != 0xff {
		t.Errorf("%x, %x, error %d", sure, can, e)
	}
	checkWithdrawal(t, b, ledOf(b))
}
