package river_test

import (
	"math"
	"reflect"
	"slices"
	"testing"

	"nacre/api"
	"nacre/river"
)

// P8.8: a shell in a sack has no origin that it has not by itself, and one shell more, or one test more, adds none.
func TestMoreInSack(t *testing.T) {
	d := dice(15)
	lost := map[string]int{}
	for range 3000 {
		b := bookBy(&d, []size{small(), alike(), wide(), large()}[d.upTo(3)])
		s, _ := sackBy(&d, b)
		shell := s.Shells[len(s.Shells)-1]
		s.Tests = nil
		less := sack(s.Shells[:max(1, len(s.Shells)-1)]...)
		more := tested(s, d.upTo(len(s.Shells)-1), d.upTo(1) == 0)
		wantFewer(t, "a shell more", b, less, s, lost)
		wantFewer(t, "a test more", b, s, more, lost)
		wantFewer(t, "another test more", b, more, tested(more, d.upTo(len(s.Shells)-1), d.upTo(1) == 0), lost)
		wantFewer(t, "by itself", b, sack(shell), sack(slices.Concat([]api.RiverShell{shell}, s.Shells[:len(s.Shells)-1])...), lost)
		alone, e := river.Could(b, shell)
		only, f := river.Origins(b, sack(shell), 0)
		if e != api.OK || f != api.OK || !slices.Equal(alone, only) {
			t.Fatalf("%v, %v: %v, %v, errors %d, %d", b, shell, alone, only, e, f)
		}
	}
	for _, name := range []string{"a shell more", "a test more", "another test more", "by itself"} {
		if lost[name] < 50 {
			t.Errorf("lost: %v", lost)
		}
	}
}

// wantFewer fails if a shell of a sack has an origin in a later one that it had not.
func wantFewer(t *testing.T, name string, b api.RiverBook, before, later api.RiverSack, lost map[string]int) {
	t.Helper()
	for n := range before.Shells {
		was, _ := river.Origins(b, before, n)
		is, e := river.Origins(b, later, n)
		// with an error no origins are left
		if e != api.OK && e != api.ErrRule || !isPart(is, was) {
			t.Fatalf("%s: %v, %v: %v, %v: %v, error %d", name, b, before, was, later, is, e)
		}
		if len(is) < len(was) {
			lost[name]++
		}
	}
}

// P8.8: a lesser Off never adds an origin, by itself or in a sack.
func TestLesserOff(t *testing.T) {
	d := dice(16)
	lost := map[string]int{}
	for range 2000 {
		b := bookBy(&d, []size{small(), alike(), large()}[d.upTo(2)])
		s, _ := sackBy(&d, b)
		n := d.upTo(len(s.Shells) - 1)
		s.Shells[n].Off = d.from(s.Shells[n].Off, api.RiverOff)
		less := s
		less.Shells = slices.Clone(s.Shells)
		less.Shells[n].Off = d.upTo(s.Shells[n].Off)
		wantFewer(t, "Off", b, s, less, lost)
		was, _ := river.Could(b, s.Shells[n])
		is, e := river.Could(b, less.Shells[n])
		if e != api.OK || !isPart(is, was) {
			t.Fatalf("%v, %v: %v, %v: %v, error %d", b, s.Shells[n], was, less.Shells[n], is, e)
		}
		if len(is) < len(was) {
			lost["by itself"]++
		}
	}
	if lost["Off"] < 50 || lost["by itself"] < 50 {
		t.Errorf("lost: %v", lost)
	}
}

// P8.8: a greater Quota never makes the rest greater.
func TestGreaterQuota(t *testing.T) {
	d := dice(17)
	less := 0
	for range 2000 {
		b := bookBy(&d, small())
		for i := range b.Rivers {
			b.Rivers[i].Closed &= d.upTo(1<<b.Years - 1)
		}
		l, k := marketBy(&d, b)
		if len(l) == 0 {
			continue
		}
		_, was, e := river.Deal(b, l, k)
		quota := &l[d.upTo(len(l)-1)].Quota
		*quota = d.from(*quota, min(*quota+9, api.RiverQuota))
		_, is, f := river.Deal(b, l, k)
		if e != api.OK || f != api.OK || is > was {
			t.Fatalf("%v, %v, %v: %d, then %d, errors %d, %d", b, l, k, was, is, e, f)
		}
		if is < was {
			less++
		}
	}
	if less < 100 {
		t.Errorf("%d are less", less)
	}
}

// question is the arguments of all functions.
type question struct {
	b               api.RiverBook
	s               api.RiverShell
	sack            api.RiverSack
	truth           api.RiverTruth
	shell, many     int
	river, from, to int
	size            int
	licences        []api.RiverLicence
	takes           []api.RiverTake
	deal            []int
	text            string
}

// everything calls all functions, and returns all of their results.
func everything(q question) []any {
	var all []any
	add := func(results ...any) { all = append(all, results...) }
	add(river.Check(q.b))
	could, e := river.Could(q.b, q.s)
	add(could, e)
	word, e := river.Word(q.b, q.s)
	add(word, e)
	is, e := river.Fits(q.b, q.sack, q.truth)
	add(is, e)
	is, e = river.Possible(q.b, q.sack)
	add(is, e)
	could, e = river.Origins(q.b, q.sack, q.shell)
	add(could, e)
	w, e := river.Weather(q.b, q.sack)
	add(w, e)
	s, e := river.Closed(q.b, q.sack)
	add(s, e)
	n, tests, e := river.Tests(q.b, q.sack, q.many)
	add(n, tests, e)
	s, e = river.Length(q.b, q.river, q.from, q.to)
	add(s, e)
	n, e = river.Ripe(q.b, q.river, q.from, q.size)
	add(n, e)
	is, n, e = river.Deals(q.b, q.licences, q.takes, q.deal)
	add(is, n, e)
	deal, n, e := river.Deal(q.b, q.licences, q.takes)
	add(deal, n, e)
	written, e := river.Print(q.b)
	add(written, e)
	b, e := river.Read(q.text)
	add(b, e)
	return all
}

// asked returns a question to which all functions have an answer.
func asked() question {
	return question{
		b: bookB(), s: shellU(), sack: tested(mixed(), 0, true), truth: truthB(func(*api.RiverTruth) {}), shell: 1, many: 2,
		river: 0, from: 0, to: 2, size: 25, licences: licencesL(), takes: takesK(), deal: list(0, -1, 1, -1), text: text,
	}
}

// R4 and R8: no argument is changed, results share no memory, and a second call has equal results.
func TestMemory(t *testing.T) {
	q := asked()
	first := everything(q)
	if !reflect.DeepEqual(q, asked()) {
		t.Fatal("an argument was changed")
	}
	want := everything(q)
	if !reflect.DeepEqual(first, want) {
		t.Errorf("%v, then %v", first, want)
	}
	for _, x := range first {
		if e, ok := x.(api.Errno); ok && e != api.OK {
			t.Fatalf("%v: not all have an answer", first)
		}
		spoil(reflect.ValueOf(x))
	}
	if got := everything(q); !reflect.DeepEqual(got, want) {
		t.Errorf("a result that was changed changes another one: %v, want %v", got, want)
	}
	if !reflect.DeepEqual(q, asked()) {
		t.Error("a result shares memory with an argument")
	}
	apart := map[uintptr]bool{}
	for _, x := range want {
		eachList(reflect.ValueOf(x), func(v reflect.Value) {
			if v.Len() > 0 && apart[v.Pointer()] {
				t.Errorf("two lists share memory: %v", v)
			}
			apart[v.Pointer()] = true
		})
	}
}

// eachList goes through all lists of a value, those of its elements before itself.
func eachList(v reflect.Value, visit func(reflect.Value)) {
	switch v.Kind() {
	case reflect.Slice:
		for i := range v.Len() {
			eachList(v.Index(i), visit)
		}
		visit(v)
	case reflect.Struct:
		for i := range v.NumField() {
			eachList(v.Field(i), visit)
		}
	}
}

// spoil changes all elements of all lists of a value, and what is behind their ends.
func spoil(v reflect.Value) {
	eachList(v, func(list reflect.Value) {
		room := list.Slice(0, list.Cap())
		for i := range room.Len() {
			if x := room.Index(i); x.Kind() == reflect.Int {
				x.SetInt(77)
			} else {
				x.SetZero()
			}
		}
	})
}

// R3: nil and empty lists are the same.
func TestEmptyLists(t *testing.T) {
	want := everything(question{})
	bare := question{
		b: api.RiverBook{Rivers: []api.RiverRiver{}}, s: api.RiverShell{Rings: []int{}},
		sack:  api.RiverSack{Shells: []api.RiverShell{}, Tests: []api.RiverTest{}},
		truth: api.RiverTruth{Weather: [][]int{}, Origins: []api.RiverOrigin{}},
		deal:  []int{}, licences: []api.RiverLicence{}, takes: []api.RiverTake{},
	}
	if got := everything(bare); !reflect.DeepEqual(got, want) {
		t.Errorf("%v, want %v", got, want)
	}
	q := asked()
	q.sack.Tests, q.licences, q.takes, q.deal = nil, nil, nil, nil
	want = everything(q)
	q.sack.Tests, q.licences, q.takes, q.deal = []api.RiverTest{}, []api.RiverLicence{}, []api.RiverTake{}, []int{}
	if got := everything(q); !reflect.DeepEqual(got, want) {
		t.Errorf("%v, want %v", got, want)
	}
}

// wild returns a number by chance, often one out of range.
func wild(d *dice) int {
	if d.upTo(7) == 0 {
		return []int{math.MinInt, math.MaxInt, math.MinInt + 1, math.MaxInt - 1, -1, 64, 101, 61}[d.upTo(7)]
	}
	return d.upTo(4)
}

// wildList returns a list by chance of what is made by chance.
func wildList[T any](d *dice, most int, one func(*dice) T) []T {
	var l []T
	for range d.upTo(most) {
		l = append(l, one(d))
	}
	return l
}

func wildNumbers(d *dice) []int { return wildList(d, 6, wild) }

func wildSpan(d *dice) api.Span { return span(wild(d), wild(d)) }

func wildRiver(d *dice) api.RiverRiver {
	return api.RiverRiver{Grow: wildList(d, 6, wildSpan), Vary: wild(d), Closed: wild(d)}
}

func wildBook(d *dice) api.RiverBook {
	return api.RiverBook{Years: wild(d), Rivers: wildList(d, 4, wildRiver)}
}

func wildShell(d *dice) api.RiverShell { return api.RiverShell{Rings: wildNumbers(d), Off: wild(d)} }

func wildTest(d *dice) api.RiverTest {
	return api.RiverTest{Shell: wild(d), Closed: d.upTo(1) == 0}
}

func wildOrigin(d *dice) api.RiverOrigin { return origin(wild(d), wild(d)) }

func wildLicence(d *dice) api.RiverLicence {
	return api.RiverLicence{River: wild(d), First: wild(d), Last: wild(d), Quota: wild(d)}
}

func wildTake(d *dice) api.RiverTake {
	return api.RiverTake{River: wild(d), Year: wildSpan(d), Many: wild(d)}
}

// wildQuestion returns a question by chance, most often one to which some functions have no answer.
func wildQuestion(d *dice) question {
	q := asked()
	for range d.from(1, 3) {
		switch d.upTo(8) {
		case 0:
			q.b = wildBook(d)
		case 1:
			q.b.Rivers = append(q.b.Rivers, wildRiver(d))
		case 2:
			q.b = bookBy(d, large())
		case 3:
			q.b = bookBy(d, alike())
			q.sack, q.truth = sackBy(d, q.b)
		case 4:
			q.s = wildShell(d)
			q.sack = api.RiverSack{Shells: wildList(d, 5, wildShell), Tests: wildList(d, 7, wildTest)}
		case 5:
			q.sack.Tests = wildList(d, 7, wildTest)
			q.truth = api.RiverTruth{Weather: wildList(d, 4, wildNumbers), Origins: wildList(d, 5, wildOrigin)}
		case 6:
			q.truth.Origins = []api.RiverOrigin{wildOrigin(d), wildOrigin(d), wildOrigin(d)}
		case 7:
			q.shell, q.many, q.river, q.from, q.to, q.size = wild(d), wild(d), wild(d), wild(d), wild(d), wild(d)
		case 8:
			q.licences, q.takes, q.deal = wildList(d, 5, wildLicence), wildList(d, 7, wildTake), wildNumbers(d)
		}
	}
	const marks = "book 01-23\nriver end\xff"
	q.text = string(wildList(d, 60, func(d *dice) byte { return marks[d.upTo(len(marks)-1)] }))
	return q
}

// P0.1: every function terminates and does not panic, for all arguments; with an error, all other results are zero values.
func TestAnyArguments(t *testing.T) {
	d := dice(18)
	questions := []question{{}, asked()}
	for range 4000 {
		questions = append(questions, wildQuestion(&d))
	}
	for _, q := range questions {
		var results []any
		for _, x := range everything(q) {
			e, ok := x.(api.Errno)
			if !ok {
				results = append(results, x)
				continue
			}
			wantError(t, "a question by chance", e, e, results...)
			results = nil
		}
	}
}

// P0.1: the largest books and sacks are answered.
func TestLargest(t *testing.T) {
	b := evenBook()
	s := sack(shell(3, 38), shell(3, 38), shell(3, 38), shell(3, 38))
	for n := range s.Shells {
		if got, e := river.Origins(b, s, n); e != api.OK || !slices.Equal(got, everywhere(b)) {
			t.Errorf("%v, error %d", got, e)
		}
	}
	if closed, e := river.Closed(b, s); e != api.OK || closed != span(0, 4) {
		t.Errorf("%v, error %d", closed, e)
	}
	for many := 1; many <= api.RiverShells; many++ {
		if n, tests, e := river.Tests(b, s, many); e != api.OK || n != 0 || tests != 4 {
			t.Errorf("%d, %d, error %d", n, tests, e)
		}
	}
	w, e := river.Weather(b, s)
	if e != api.OK || !sameSpans(w, slices.Repeat([][]api.Span{b.Rivers[0].Grow}, 3)) {
		t.Errorf("%v, error %d", w, e)
	}
	s = sack(shell(3, 42, 34, 42, 34, 42), shell(3, 34, 42, 34, 42, 34), shell(3, 30, 46, 38, 30, 46), shell(0, 33, 43, 33, 43, 33))
	wantTold(t, b, s, followed(b, s))
}
