package foreman_test

import (
	"math"
	"reflect"
	"slices"
	"strconv"
	"strings"
	"testing"

	"nacre/api"
	"nacre/foreman"
)

// arguments is the arguments of all functions.
type arguments struct {
	s       api.ForemanSuite
	entries []api.ForemanEntry
	asked   []api.ForemanQuestion
	line    string
	journal string
	script  string
}

// everything calls all functions, and returns all of their results but desks; at each desk all entries are made, and all questions asked.
func everything(a arguments) []any {
	var all []any
	add := func(results ...any) { all = append(all, results...) }
	add(foreman.Check(a.s))
	work := func(d *foreman.Desk) {
		for _, x := range a.entries {
			add(d.Enter(x))
			for _, q := range a.asked {
				answer, e := d.Ask(q)
				add(answer, e)
			}
		}
		journal, e := d.Journal()
		add(journal, e)
	}
	d, e := foreman.Open(a.s)
	add(d == nil, e)
	work(d)
	d, at, e := foreman.Replay(a.s, a.journal)
	add(d == nil, at, e)
	work(d)
	for _, x := range a.entries {
		line, e := foreman.Write(x)
		add(line, e)
	}
	x, e := foreman.Parse(a.line)
	add(x, e)
	said, e := foreman.Console(a.s, a.script)
	add(said, e)
	return all
}

// asked returns arguments to which all functions have an answer.
func asked() arguments {
	return arguments{
		s:       suiteS(),
		entries: []api.ForemanEntry{cut(0, 0, 0), cut(0, 1, 0), cut(1, 2, 1), take(0, 2, 3), take(1, 2, 2), send(0, 4), bring(0, 3), find(5, 9), find(1, 9), strike(7)},
		asked: []api.ForemanQuestion{
			question(api.ForemanSlices), question(api.ForemanWorth), question(api.ForemanBest), question(api.ForemanSound), question(api.ForemanGives, 0, 2, 0),
			question(api.ForemanWindow, 1), question(api.ForemanDue, 0), question(api.ForemanWho), question(api.ForemanMoulds, 5, 9), question(api.ForemanStands),
		},
		line: "take 1 2 2", journal: "cut 0 2 0\nstrike 0\n", script: "cut 0 2 0\nwho\nstands\n",
	}
}

// P10.11, R4 and R8: no argument is changed or kept, results share no memory, and a second call has equal results.
func TestMemory(t *testing.T) {
	a := asked()
	first := everything(a)
	if !reflect.DeepEqual(a, asked()) {
		t.Fatal("an argument was changed")
	}
	want := everything(a)
	if !reflect.DeepEqual(first, want) {
		t.Errorf("%v, then %v", first, want)
	}
	for _, x := range first {
		if e, ok := x.(api.Errno); ok && e != api.OK && e != api.ErrRule && e != api.ErrArg {
			t.Fatalf("%v: the error %d", first, e)
		}
		spoil(reflect.ValueOf(&x).Elem())
	}
	if got := everything(a); !reflect.DeepEqual(got, want) {
		t.Errorf("a result that was changed changes another one: %v, want %v", got, want)
	}
	if !reflect.DeepEqual(a, asked()) {
		t.Error("a result shares memory with an argument")
	}
}

// P10.11: whoever changes the suite after Open, an entry after Enter, or an answer, changes nothing at the desk.
func TestChangesAfterwards(t *testing.T) {
	a := asked()
	plain := opened(t, suiteS(), asked().entries...)
	want := answers(plain, suiteS(), 0)
	journal, _ := plain.Journal()
	d := opened(t, a.s)
	replayed, _, e := foreman.Replay(a.s, journal)
	wantError(t, "Replay", e, api.OK)
	spoil(reflect.ValueOf(&a.s).Elem())
	for i := range a.entries {
		wantError(t, "an entry", d.Enter(a.entries[i]), api.OK)
		spoil(reflect.ValueOf(&a.entries[i]).Elem())
		for _, q := range a.asked {
			answer, _ := d.Ask(q)
			spoil(reflect.ValueOf(&answer).Elem())
		}
	}
	for name, d := range map[string]*foreman.Desk{"Open": d, "Replay": replayed} {
		if got := answers(d, suiteS(), 0); !slices.EqualFunc(got, want, slices.Equal[[]int]) {
			t.Errorf("%s: %v, want %v", name, got, want)
		}
		if now, e := d.Journal(); e != api.OK || now != journal {
			t.Errorf("%s: %q, error %d, want %q", name, now, e, journal)
		}
		wantError(t, name, d.Enter(strike(6)), api.OK)
		wantError(t, name, d.Enter(cut(1, 0, 0)), api.ErrRule)
	}
}

// P10.11: desks of one suite do not change each other, nor does a journal that was played again.
func TestDesksApart(t *testing.T) {
	s := suiteS()
	one, other := opened(t, s, cut(0, 0, 0)), opened(t, s)
	journal, _ := one.Journal()
	again, _, e := foreman.Replay(s, journal)
	wantError(t, "Replay", e, api.OK)
	wantError(t, "one", one.Enter(cut(0, 1, 0)), api.OK)
	wantError(t, "again", again.Enter(strike(0)), api.OK)
	for _, x := range []struct {
		d    *foreman.Desk
		want string
	}{{one, "cut 0 0 0\ncut 0 1 0\n"}, {other, ""}, {again, "cut 0 0 0\nstrike 0\n"}} {
		if got, e := x.d.Journal(); e != api.OK || got != x.want {
			t.Errorf("%q, error %d, want %q", got, e, x.want)
		}
	}
	// what others can reach of a Desk is its methods
	desk := reflect.TypeFor[foreman.Desk]()
	for _, f := range reflect.VisibleFields(desk) {
		if f.IsExported() {
			t.Errorf("the field %s of a Desk can be changed", f.Name)
		}
	}
}

// spoil changes all that a value has, and what is behind the ends of its lists.
func spoil(v reflect.Value) {
	switch v.Kind() {
	case reflect.Interface:
		// what is in an interface can be changed through its lists alone
		if inner := v.Elem(); inner.Kind() == reflect.Slice || inner.Kind() == reflect.Struct {
			changed := reflect.New(inner.Type()).Elem()
			changed.Set(inner)
			spoil(changed)
		}
	case reflect.Slice:
		room := v.Slice(0, v.Cap())
		for i := range room.Len() {
			spoil(room.Index(i))
		}
	case reflect.Struct:
		for i := range v.NumField() {
			spoil(v.Field(i))
		}
	case reflect.Int:
		v.SetInt(77)
	case reflect.Bool:
		v.SetBool(!v.Bool())
	}
}

// R3: nil and empty lists are the same.
func TestEmptyLists(t *testing.T) {
	a := asked()
	a.s.Work.Map.Cracks, a.s.Drum.Strips, a.s.Book.Moulds[1].Marks = nil, nil, nil
	a.asked = append(a.asked, api.ForemanQuestion{Kind: api.ForemanDue})
	a.entries = append(a.entries, api.ForemanEntry{Kind: api.ForemanStrike})
	want := everything(a)
	a.s.Work.Map.Cracks, a.s.Drum.Strips, a.s.Book.Moulds[1].Marks = []api.ShellCrack{}, []api.DrumStrip{}, []api.MouldMark{}
	for i := range a.asked {
		a.asked[i].Numbers = append([]int{}, a.asked[i].Numbers...)
	}
	a.entries[len(a.entries)-1].Numbers = list()
	if got := everything(a); !reflect.DeepEqual(got, want) {
		t.Errorf("%v, want %v", got, want)
	}
}

// wild returns a number by chance, often one out of range.
func wild(d *dice) int {
	if d.upTo(5) == 0 {
		return []int{math.MinInt, math.MaxInt, math.MinInt + 1, math.MaxInt - 1, -1, 9999, 10000, 100, 256, 255}[d.upTo(9)]
	}
	return d.upTo(4)
}

// wildList returns a list by chance of what is made by chance.
func wildList[T any](d *dice, most int, one func(*dice) T) []T {
	var l []T
	for range d.upTo(most) {
		l = append(l, one(d))
	}
	return l
}

func wildEntry(d *dice) api.ForemanEntry {
	x := api.ForemanEntry{Kind: api.ForemanKind(d.from(1, 6)), Numbers: wildList(d, 4, wild)}
	if d.upTo(9) == 0 {
		x.Kind = api.ForemanKind(wild(d))
	}
	return x
}

func wildQuestion(d *dice) api.ForemanQuestion {
	q := api.ForemanQuestion{Kind: api.ForemanAsk(d.from(1, 10)), Numbers: wildList(d, 4, wild)}
	if d.upTo(9) == 0 {
		q.Kind = api.ForemanAsk(wild(d))
	}
	return q
}

// wildSuite returns a suite by chance in which some numbers and lists are out of range.
func wildSuite(d *dice) api.ForemanSuite {
	s := worldBy(d).suite
	for range d.upTo(2) {
		disturb(d, reflect.ValueOf(&s).Elem())
	}
	return s
}

// disturb changes something by chance in a value.
func disturb(d *dice, v reflect.Value) {
	switch v.Kind() {
	case reflect.Slice:
		if v.Len() == 0 || d.upTo(9) == 0 {
			v.Set(reflect.MakeSlice(v.Type(), d.upTo(2), 2))
			return
		}
		disturb(d, v.Index(d.upTo(v.Len()-1)))
	case reflect.Struct:
		disturb(d, v.Field(d.upTo(v.NumField()-1)))
	case reflect.Int:
		v.SetInt(int64(wild(d)))
	}
}

// wildText returns lines by chance.
func wildText(d *dice) string {
	lines := wildList(d, 30, lineBy)
	if d.upTo(9) == 0 {
		lines = append(lines, strings.Repeat("x", d.from(50, 1600)))
	}
	return strings.Join(lines, "\n") + []string{"", "\n"}[min(1, d.upTo(5))]
}

// P0.1: every function terminates and does not panic, for all arguments; with an error, all other results are zero values.
func TestAnyArguments(t *testing.T) {
	d := dice(15)
	all := []arguments{{}, asked()}
	for range 1500 {
		all = append(all, arguments{s: wildSuite(&d), entries: wildList(&d, 30, wildEntry), asked: wildList(&d, 6, wildQuestion), line: lineBy(&d), journal: wildText(&d), script: wildText(&d)})
	}
	for _, a := range all {
		for _, x := range a.asked {
			d, _ := foreman.Open(a.s)
			answer, e := d.Ask(x)
			wantError(t, "a question by chance", e, e, answer)
		}
		everything(a)
		if _, e := foreman.Open(a.s); e != foreman.Check(a.s) {
			t.Errorf("%v: error %d", a.s, e)
		}
	}
}

// P0.1, P10.2 and P10.3: the largest suite and the smallest one have all entries and answers.
func TestLargest(t *testing.T) {
	var entries []api.ForemanEntry
	for n := range 16 {
		entries = append(entries, cut(n/4, n%4, n%4))
	}
	entries = append(entries, take(4, 12, 500), take(0, 12, 460), send(3, 900), bring(3, 900), find(255, 99), find(0, 99), strike(20), strike(21))
	d := opened(t, fullSuite(), entries...)
	wantAnswer(t, d, question(api.ForemanSlices), api.OK, 960, 960, 900, 900)
	wantAnswer(t, d, question(api.ForemanWorth), api.OK, 96000, 96000)
	wantAnswer(t, d, question(api.ForemanBest), api.OK, 288000)
	wantAnswer(t, d, question(api.ForemanSound), api.OK, 96000-3*6000)
	wantAnswer(t, d, question(api.ForemanWindow, 4), api.OK, 0, 12)
	wantAnswer(t, d, question(api.ForemanDue, 3), api.OK, 7000, 35, 0)
	wantAnswer(t, d, question(api.ForemanWho), api.OK)
	wantAnswer(t, d, question(api.ForemanMoulds, 0, 99), api.OK, 0, 1, 2, 3, 4)
	journal, e := d.Journal()
	if e != api.OK || strings.Count(journal, "\n") != api.ForemanEntries {
		t.Errorf("%q, error %d", journal, e)
	}
	b := opened(t, bareSuite())
	wantLedger(t, b, newLedger(bareSuite()))
	for n := range 24 {
		wantError(t, strconv.Itoa(n), b.Enter(find(0, 0)), api.ErrRule)
		wantError(t, strconv.Itoa(n), b.Enter(take(0, 0, 1)), api.ErrRule)
		wantError(t, strconv.Itoa(n), b.Enter(cut(0, 0, 0)), api.ErrRule)
	}
}
