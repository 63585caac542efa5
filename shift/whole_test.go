package shift_test

import (
	"math"
	"reflect"
	"slices"
	"testing"

	"nacre/api"
	"nacre/shift"
)

// P5.9: if a fan draws more, there is never more dust in a room, and nothing that was safe becomes unsafe.
func TestMoreDrawn(t *testing.T) {
	d := dice(14)
	less, safer := 0, 0
	for range 400 {
		h := houseBy(&d, large())
		if len(h.Fans) == 0 {
			continue
		}
		before, e := shift.Known(h)
		path, limit := pathBy(&d, h), d.upTo(300)
		word, _ := shift.Safe(h, limit, path)
		any, _ := shift.Any(h, limit, dutyOf(h, path))
		roster, hands, g := shift.Roster(h)

		i := d.upTo(len(h.Fans) - 1)
		h.Fans[i].Draws = d.from(h.Fans[i].Draws, api.ShiftDust)
		after, f := shift.Known(h)
		if e != api.OK || f != api.OK {
			t.Fatal(h, e, f)
		}
		for room, bounds := range after {
			for hour, s := range bounds {
				if s.Low > before[room][hour].Low || s.High > before[room][hour].High {
					t.Fatalf("%v: %v in the room %d, the hour %d, and it was %v", h, s, room, hour, before[room][hour])
				}
				if s != before[room][hour] {
					less++
				}
			}
		}
		newWord, _ := shift.Safe(h, limit, path)
		newAny, _ := shift.Any(h, limit, dutyOf(h, path))
		if newWord < word || any && !newAny {
			t.Fatalf("%v, %d, %v: %d and %v, and it was %d and %v", h, limit, path, newWord, newAny, word, any)
		}
		if newWord > word {
			safer++
		}
		if g != api.OK {
			continue
		}
		kept, e := shift.Staffs(h, roster)
		_, fewest, f := shift.Roster(h)
		if e != api.OK || f != api.OK || !kept || fewest > hands {
			t.Fatalf("%v, %v: kept %v, %d hands, errors %d, %d", h, roster, kept, fewest, e, f)
		}
	}
	if less < 200 || safer < 5 {
		t.Errorf("%d with less dust, %d safer", less, safer)
	}
}

// P5.9: if a hand's Limit is greater, no roster that was kept is not kept any more.
func TestGreaterLimit(t *testing.T) {
	d := dice(15)
	kept, gained := 0, 0
	for range 2000 {
		h := houseBy(&d, large())
		roster, ok := rosterBy(&d, h)
		if !ok {
			continue
		}
		before, e := shift.Staffs(h, roster)
		i := d.upTo(len(h.Hands) - 1)
		h.Hands[i].Limit = d.from(h.Hands[i].Limit, api.ShiftLimit)
		after, f := shift.Staffs(h, roster)
		if e != api.OK || f != api.OK || before && !after {
			t.Fatalf("%v, %v: kept %v, and it was %v, errors %d, %d", h, roster, after, before, e, f)
		}
		if before {
			kept++
		} else if after {
			gained++
		}
	}
	if kept < 100 || gained < 20 {
		t.Errorf("%d kept, %d more kept", kept, gained)
	}
}

// P0.5: a duty that is safe in any order is, whatever is true.
func TestAnyOfAnyTruth(t *testing.T) {
	d := dice(16)
	safe := 0
	for range 300 {
		h := houseBy(&d, large())
		duty, limit := dutyOf(h, pathBy(&d, h)), d.upTo(400)
		is, e := shift.Any(h, limit, duty)
		if e != api.OK {
			t.Fatal(h, duty, e)
		}
		if !is {
			continue
		}
		for _, path := range allPaths(h) {
			if !slices.Equal(dutyOf(h, path), duty) {
				continue
			}
			for range 5 {
				truth := truthBy(&d, h)
				n := breathedIn(dustIn(h, truth), path)
				if n > limit {
					t.Fatalf("%v, %v, %v: %d is breathed, and the limit is %d", h, path, truth, n, limit)
				}
				if n > 0 {
					safe++
				}
			}
		}
	}
	if safe < 500 {
		t.Errorf("%d paths", safe)
	}
}

// question is the arguments of all functions.
type question struct {
	h          api.ShiftHouse
	truth      api.ShiftTruth
	failure    api.ShiftFailure
	path, duty []int
	roster     [][]int
	limit      int
	seen, off  int
	text       string
}

// everything calls all functions, and returns all of their results.
func everything(q question) []any {
	var all []any
	add := func(results ...any) { all = append(all, results...) }
	add(shift.Check(q.h))
	is, e := shift.Fits(q.h, q.truth)
	add(is, e)
	dust, e := shift.Run(q.h, q.truth)
	add(dust, e)
	bounds, e := shift.Known(q.h)
	add(bounds, e)
	s, e := shift.Breathes(q.h, q.path)
	add(s, e)
	word, e := shift.Safe(q.h, q.limit, q.path)
	add(word, e)
	path, n, e := shift.Worst(q.h, q.duty)
	add(path, n, e)
	path, n, e = shift.Best(q.h, q.duty)
	add(path, n, e)
	is, e = shift.Any(q.h, q.limit, q.duty)
	add(is, e)
	is, e = shift.Staffs(q.h, q.roster)
	add(is, e)
	roster, n, e := shift.Roster(q.h)
	add(roster, n, e)
	danger, e := shift.Danger(q.h, q.roster)
	add(danger, e)
	where, e := shift.Where(q.h, q.seen, q.off)
	add(where, e)
	n, e = shift.Made(q.h, q.failure)
	add(n, e)
	s, e = shift.Makes(q.h)
	add(s, e)
	written, e := shift.Print(q.h)
	add(written, e)
	h, e := shift.Read(q.text)
	add(h, e)
	return all
}

// asked returns a question to which all functions have an answer.
func asked() question {
	return question{
		h: houseH(), truth: api.ShiftTruth{Dust: dusts(6, 2), Failure: fanFails(0, 1)}, failure: machineFails(0, 2),
		path: []int{0, 1, -1}, duty: []int{1, 1}, roster: longOfH(), limit: 10, seen: 30, off: 2, text: sealed(linesH()...),
	}
}

// R4 and R8: no argument is changed, results share no memory, and a second call has equal results.
func TestMemory(t *testing.T) {
	q := asked()
	first := everything(q)
	if !reflect.DeepEqual(q, asked()) {
		t.Fatal("an argument was changed")
	}
	want := everything(q)
	if !reflect.DeepEqual(first, want) {
		t.Errorf("%v, then %v", first, want)
	}
	for _, x := range first {
		if e, ok := x.(api.Errno); ok && e != api.OK {
			t.Fatalf("%v: not all have an answer", first)
		}
		spoil(reflect.ValueOf(x))
	}
	if got := everything(q); !reflect.DeepEqual(got, want) {
		t.Errorf("a result that was changed changes another one: %v, want %v", got, want)
	}
	if !reflect.DeepEqual(q, asked()) {
		t.Error("a result shares memory with an argument")
	}
	apart := map[uintptr]bool{}
	for _, x := range want {
		lists(reflect.ValueOf(x), func(v reflect.Value) {
			if v.Len() > 0 && apart[v.Pointer()] {
				t.Errorf("two lists share memory: %v", v)
			}
			apart[v.Pointer()] = true
		})
	}
}

// lists goes through all lists of a value, those of its elements before itself.
func lists(v reflect.Value, visit func(reflect.Value)) {
	switch v.Kind() {
	case reflect.Slice:
		for i := range v.Len() {
			lists(v.Index(i), visit)
		}
		visit(v)
	case reflect.Struct:
		for i := range v.NumField() {
			lists(v.Field(i), visit)
		}
	}
}

// spoil changes all elements of all lists of a value, and what is behind their ends.
func spoil(v reflect.Value) {
	lists(v, func(list reflect.Value) {
		room := list.Slice(0, list.Cap())
		for i := range room.Len() {
			if x := room.Index(i); x.Kind() == reflect.Int {
				x.SetInt(77)
			} else {
				x.SetZero()
			}
		}
	})
}

// R3: nil and empty lists are the same.
func TestEmptyLists(t *testing.T) {
	q := asked()
	q.h.Fans, q.truth.Failure = nil, noFailure()
	want := everything(q)
	q.h.Fans = []api.ShiftFan{}
	if got := everything(q); !reflect.DeepEqual(got, want) {
		t.Errorf("%v, want %v", got, want)
	}
	want = everything(question{})
	bare := question{
		h:     api.ShiftHouse{Rooms: []api.ShiftRoom{}, Fans: []api.ShiftFan{}, Open: []int{}, Hands: []api.ShiftHand{}},
		truth: api.ShiftTruth{Dust: [][]int{}}, path: []int{}, duty: []int{}, roster: [][]int{},
	}
	if got := everything(bare); !reflect.DeepEqual(got, want) {
		t.Errorf("%v, want %v", got, want)
	}
}

// wild returns a number by chance, often one out of range.
func wild(d *dice) int {
	if d.upTo(7) == 0 {
		return []int{math.MinInt, math.MaxInt, math.MinInt + 1, math.MaxInt - 1, -1, 64, 51, 2001}[d.upTo(7)]
	}
	return d.upTo(3)
}

// wildList returns a list by chance of what is made by chance.
func wildList[T any](d *dice, most int, one func(*dice) T) []T {
	var l []T
	for range d.upTo(most) {
		l = append(l, one(d))
	}
	return l
}

func wildNumbers(d *dice) []int { return wildList(d, 4, wild) }

func wildRoom(d *dice) api.ShiftRoom {
	return room(span(wild(d), wild(d)), wild(d), wild(d), wild(d))
}

func wildFan(d *dice) api.ShiftFan { return api.ShiftFan{Room: wild(d), Draws: wild(d)} }

func wildHand(d *dice) api.ShiftHand { return hand(wild(d), wild(d)) }

func wildFailure(d *dice) api.ShiftFailure {
	return api.ShiftFailure{What: api.ShiftWhat(wild(d)), Number: wild(d), Hour: wild(d)}
}

// wildQuestion returns a question by chance, most often one to which some functions have no answer.
func wildQuestion(d *dice) question {
	q := asked()
	for range d.from(1, 3) {
		switch d.upTo(9) {
		case 0:
			q.h.Hours = wild(d)
		case 1:
			q.h.Rooms = wildList(d, 4, wildRoom)
		case 2:
			q.h.Fans = wildList(d, 5, wildFan)
		case 3:
			q.h.Open = wildNumbers(d)
		case 4:
			q.h.Hands = wildList(d, 5, wildHand)
		case 5:
			q.truth = api.ShiftTruth{Dust: wildList(d, 3, wildNumbers), Failure: wildFailure(d)}
		case 6:
			q.failure, q.limit, q.seen, q.off = wildFailure(d), wild(d), wild(d), wild(d)
		case 7:
			q.path, q.duty = wildNumbers(d), wildNumbers(d)
		case 8:
			q.roster = wildList(d, 4, wildNumbers)
		case 9:
			q.roster[d.upTo(len(q.roster)-1)] = wildNumbers(d)
		}
		if len(q.roster) == 0 {
			q.roster = longOfH()
		}
	}
	const marks = "house 01-23\nroom make fan open hand end\xff"
	q.text = string(wildList(d, 60, func(d *dice) byte { return marks[d.upTo(len(marks)-1)] }))
	return q
}

// P0.1: every function terminates and does not panic, for all arguments; with an error, all other results are zero values.
func TestAnyArguments(t *testing.T) {
	d := dice(17)
	questions := []question{{}, asked()}
	for range 3000 {
		questions = append(questions, wildQuestion(&d))
	}
	for _, q := range questions {
		var results []any
		for _, x := range everything(q) {
			e, ok := x.(api.Errno)
			if !ok {
				results = append(results, x)
				continue
			}
			wantError(t, "a question by chance", e, e, results...)
			results = nil
		}
	}
}
