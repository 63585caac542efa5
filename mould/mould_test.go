package mould_test

import (
	"slices"
	"testing"

	"nacre/api"
	"nacre/mould"
)

// P7.1: Check returns OK for a book that is as defined, and ErrArg for others.
func TestCheck(t *testing.T) {
	for name, b := range map[string]api.MouldBook{
		"b":                  bookB(),
		"c":                  bookC(),
		"one not possible":   torn(),
		"the least":          bareBook(),
		"the most":           fullBook(),
		"one line":           deepBook(),
		"a Cut of 6":         changed(func(b *api.MouldBook) { b.Moulds[1].Cut = span(2, 7) }),
		"a Cut from 0":       changed(func(b *api.MouldBook) { b.Moulds[1].Cut = span(0, 5) }),
		"a Cut at 36":        changed(func(b *api.MouldBook) { b.Moulds[1].Cut = span(31, 36) }),
		"a First of all":     changed(func(b *api.MouldBook) { b.Moulds[1].Marks[0].First = span(1, 36) }),
		"no marks":           changed(func(b *api.MouldBook) { b.Moulds[0].Marks = nil }),
		"a brother's spot":   changed(func(b *api.MouldBook) { b.Moulds = append(b.Moulds, copyOf(0, 2)) }),
		"a stranger's spots": changed(func(b *api.MouldBook) { b.Moulds = append(b.Moulds, bookB().Moulds...); b.Moulds[3].Parent = 2 }),
		"one house for all":  changed(func(b *api.MouldBook) { b.Moulds[1].Loans = slices.Repeat(b.Moulds[1].Loans, 3) }),
	} {
		wantError(t, name, mould.Check(b), api.OK)
	}
	for name, b := range badBooks() {
		wantError(t, name, mould.Check(b), api.ErrArg)
	}
}

// truthB returns a truth of the book b with some change.
func truthB(change func(x *api.MouldTruth)) api.MouldTruth {
	x := api.MouldTruth{First: [][]int{{1, 5}, {3}}, Cut: []int{0, 5}, Strikes: [][]int{{6, 4}, {8}}, Days: [][]int{{2, 5}, {3}}}
	change(&x)
	return x
}

// P7.1: Fits tells truths from others; each number has its edges.
func TestFitsOfB(t *testing.T) {
	for name, x := range map[string]struct {
		change func(x *api.MouldTruth)
		want   bool
	}{
		"as it is":             {func(x *api.MouldTruth) {}, true},
		"a First of 4":         {func(x *api.MouldTruth) { x.First[0][1] = 4 }, true},
		"a First of 3":         {func(x *api.MouldTruth) { x.First[0][1] = 3 }, false},
		"a First of 8":         {func(x *api.MouldTruth) { x.First[0][1] = 8 }, true},
		"a First of 9":         {func(x *api.MouldTruth) { x.First[0][1] = 9 }, false},
		"a First far above":    {func(x *api.MouldTruth) { x.First[1][0] = far }, false},
		"a copy's First of 2":  {func(x *api.MouldTruth) { x.First[1][0] = 2 }, false},
		"a copy's First of 4":  {func(x *api.MouldTruth) { x.First[1][0] = 4 }, true},
		"a Cut of 2":           {func(x *api.MouldTruth) { x.Cut[1] = 2 }, true},
		"a Cut of 1":           {func(x *api.MouldTruth) { x.Cut[1] = 1 }, false},
		"a Cut of 6":           {func(x *api.MouldTruth) { x.Cut[1] = 6 }, false},
		"a Cut far below":      {func(x *api.MouldTruth) { x.Cut[1] = -far - 1 }, false},
		"a Cut of no parent":   {func(x *api.MouldTruth) { x.Cut[0] = 1 }, false},
		"5 strikes":            {func(x *api.MouldTruth) { x.Strikes[0][0] = 5 }, true},
		"4 strikes":            {func(x *api.MouldTruth) { x.Strikes[0][0] = 4 }, false},
		"7 strikes":            {func(x *api.MouldTruth) { x.Strikes[0][0] = 7 }, false},
		"5 strikes of loan 1":  {func(x *api.MouldTruth) { x.Strikes[0][1] = 5 }, true},
		"6 strikes of loan 1":  {func(x *api.MouldTruth) { x.Strikes[0][1] = 6 }, false},
		"4 strikes of mould 1": {func(x *api.MouldTruth) { x.Strikes[1][0] = 4 }, true},
		"9 strikes of mould 1": {func(x *api.MouldTruth) { x.Strikes[1][0] = 9 }, false},
		"the day 1":            {func(x *api.MouldTruth) { x.Days[0][0] = 1 }, true},
		"the day 0":            {func(x *api.MouldTruth) { x.Days[0][0] = 0 }, false},
		"the day 3":            {func(x *api.MouldTruth) { x.Days[0][0] = 3 }, false},
		"the day 4 of loan 1":  {func(x *api.MouldTruth) { x.Days[0][1] = 4 }, false},
		"the day 4 of mould 1": {func(x *api.MouldTruth) { x.Days[1][0] = 4 }, true},
		"the day 5 of mould 1": {func(x *api.MouldTruth) { x.Days[1][0] = 5 }, false},
	} {
		if got, e := mould.Fits(bookB(), truthB(x.change)); e != api.OK || got != x.want {
			t.Errorf("%s: %v, error %d", name, got, e)
		}
	}
	// days go on, or are the same
	b := changed(func(b *api.MouldBook) { b.Moulds[0].Loans[1].From = span(1, 5) })
	for day, want := range map[int]bool{1: false, 2: true, 3: true, 5: true} {
		if got, e := mould.Fits(b, truthB(func(x *api.MouldTruth) { x.Days[0][1] = day })); e != api.OK || got != want {
			t.Errorf("the days 2 and %d: %v, error %d", day, got, e)
		}
	}
	// of a book that is not possible, nothing is a truth
	if got, e := mould.Fits(torn(), truthB(func(x *api.MouldTruth) { x.Days[0][1] = 0 })); e != api.OK || got {
		t.Errorf("%v, error %d", got, e)
	}
}

// badTruths returns what has not a number for each mould, mark and loan of the book b.
func badTruths() map[string]api.MouldTruth {
	bad := map[string]api.MouldTruth{"nothing": {}}
	for name, change := range map[string]func(x *api.MouldTruth){
		"no First":              func(x *api.MouldTruth) { x.First = nil },
		"a First less":          func(x *api.MouldTruth) { x.First = x.First[:1] },
		"a First more":          func(x *api.MouldTruth) { x.First = append(x.First, nil) },
		"a mark less":           func(x *api.MouldTruth) { x.First[0] = list(1) },
		"a mark more":           func(x *api.MouldTruth) { x.First[1] = list(3, 3) },
		"a Cut less":            func(x *api.MouldTruth) { x.Cut = list(0) },
		"a Cut more":            func(x *api.MouldTruth) { x.Cut = list(0, 5, 5) },
		"no Strikes":            func(x *api.MouldTruth) { x.Strikes = nil },
		"Strikes of one":        func(x *api.MouldTruth) { x.Strikes = x.Strikes[:1] },
		"Strikes of three":      func(x *api.MouldTruth) { x.Strikes = append(x.Strikes, nil) },
		"a loan less":           func(x *api.MouldTruth) { x.Strikes[0] = list(6) },
		"a loan more":           func(x *api.MouldTruth) { x.Strikes[1] = list(8, 8) },
		"no Days":               func(x *api.MouldTruth) { x.Days = nil },
		"Days of one":           func(x *api.MouldTruth) { x.Days = x.Days[:1] },
		"Days of three":         func(x *api.MouldTruth) { x.Days = append(x.Days, nil) },
		"a day less":            func(x *api.MouldTruth) { x.Days[0] = list(2) },
		"no day":                func(x *api.MouldTruth) { x.Days[1] = nil },
		"a day more":            func(x *api.MouldTruth) { x.Days[1] = list(3, 3) },
		"far too many":          func(x *api.MouldTruth) { x.Cut = make([]int, 100000) },
		"one less, and no such": func(x *api.MouldTruth) { x.Days[0], x.Cut[1] = list(2), 9 },
	} {
		bad[name] = truthB(change)
	}
	return bad
}

// P7.1: Fits and Marks have ErrArg for a book that is not as defined, and for lists that have not all numbers.
func TestFitsOfOthers(t *testing.T) {
	same := truthB(func(x *api.MouldTruth) {})
	for name, x := range badTruths() {
		got, e := mould.Fits(bookB(), x)
		wantError(t, name, e, api.ErrArg, got)
		set, e := mould.Marks(bookB(), x, 0, 1)
		wantError(t, name, e, api.ErrArg, set)
	}
	for name, b := range badBooks() {
		got, e := mould.Fits(b, same)
		wantError(t, name, e, api.ErrArg, got)
		set, e := mould.Marks(b, same, 0, 1)
		wantError(t, name, e, api.ErrArg, set)
	}
}

// P7.1: Marks of a truth of the book b, and ErrArg for what is no truth, no mould or no strike.
func TestMarksOfB(t *testing.T) {
	same := func(x *api.MouldTruth) {}
	for name, x := range map[string]struct {
		change        func(x *api.MouldTruth)
		mould, strike int
		want          int
		e             api.Errno
	}{
		"the first strike":       {same, 0, 1, 1, api.OK},
		"before the mark 1":      {same, 0, 4, 1, api.OK},
		"with the mark 1":        {same, 0, 5, 3, api.OK},
		"the last strike":        {same, 0, 36, 3, api.OK},
		"a copy's first":         {same, 1, 1, 3, api.OK},
		"before its own mark":    {same, 1, 2, 3, api.OK},
		"with its own mark":      {same, 1, 3, 7, api.OK},
		"copied before the mark": {func(x *api.MouldTruth) { x.Cut[1] = 4 }, 1, 3, 5, api.OK},
		"used for long":          {func(x *api.MouldTruth) { x.Cut[1] = 4 }, 1, 36, 5, api.OK},
		"no such First":          {func(x *api.MouldTruth) { x.First[0][1] = 9 }, 0, 1, 0, api.ErrArg},
		"days that go back":      {func(x *api.MouldTruth) { x.Days[0] = list(2, 1) }, 0, 1, 0, api.ErrArg},
		"the strike 0":           {same, 0, 0, 0, api.ErrArg},
		"the strike 37":          {same, 0, 37, 0, api.ErrArg},
		"a strike far below":     {same, 0, -far - 1, 0, api.ErrArg},
		"the mould 2":            {same, 2, 1, 0, api.ErrArg},
		"the mould -1":           {same, -1, 1, 0, api.ErrArg},
	} {
		got, e := mould.Marks(bookB(), truthB(x.change), x.mould, x.strike)
		wantError(t, name, e, x.e, got)
		if got != x.want {
			t.Errorf("%s: %d, want %d", name, got, x.want)
		}
	}
}

// P7.1: what a copy has of its parent is decided by its own Cut, and what it has of the parent's parent by the parent's.
func TestMarksOfALine(t *testing.T) {
	b := changed(func(b *api.MouldBook) {
		b.Moulds = append(b.Moulds, api.MouldMould{Parent: 1, Cut: span(0, 3), Loans: b.Moulds[1].Loans})
	})
	x := truthB(func(x *api.MouldTruth) {
		x.First, x.Cut, x.Strikes, x.Days = append(x.First, nil), append(x.Cut, 0), append(x.Strikes, x.Strikes[1]), append(x.Days, x.Days[1])
	})
	for cut, want := range map[[2]int]int{{5, 0}: 3, {5, 2}: 3, {5, 3}: 7, {4, 0}: 1, {4, 3}: 5} {
		x.Cut[1], x.Cut[2] = cut[0], cut[1]
		if got, e := mould.Marks(b, x, 2, 1); e != api.OK || got != want {
			t.Errorf("%v: %d, error %d", cut, got, e)
		}
	}
	if sure, can, e := mould.Known(b, 2, 36); e != api.OK || sure != 1 || can != 7 {
		t.Errorf("%d, %d, error %d", sure, can, e)
	}
	b.Moulds[2].Cut, b.Moulds[1].Cut = span(0, 2), span(0, 0)
	if sure, can, e := mould.Known(b, 2, 36); e != api.OK || sure != 0 || can != 0 {
		t.Errorf("%d, %d, error %d", sure, can, e)
	}
}

// P7.1: Fits and Marks return what the definitions say, for truths and others near them.
func TestFitsByChance(t *testing.T) {
	d := dice(1)
	met := map[bool]int{}
	for range 3000 {
		b := bookBy(&d, large())
		x := truthBy(&d, b)
		n := d.upTo(len(b.Moulds) - 1)
		want := true
		switch d.upTo(3) {
		case 0:
			x.Cut[n] += d.from(-2, 2)
			want = x.Cut[n] >= b.Moulds[n].Cut.Low && x.Cut[n] <= b.Moulds[n].Cut.High
		case 1:
			loan := d.upTo(len(x.Days[n]) - 1)
			x.Days[n][loan] += d.from(-2, 2)
			from := b.Moulds[n].Loans[loan].From
			want = slices.IsSorted(x.Days[n]) && x.Days[n][loan] >= from.Low && x.Days[n][loan] <= from.High
		}
		if got, e := mould.Fits(b, x); e != api.OK || got != want {
			t.Fatalf("%v, %v: %v, error %d", b, x, got, e)
		}
		met[want]++
		strike := d.from(1, api.MouldStrikes)
		got, e := mould.Marks(b, x, n, strike)
		if want && (e != api.OK || got != hasIn(b, x, n, strike)) || !want && (e != api.ErrArg || got != 0) {
			t.Fatalf("%v, %v, %d, %d: %d, error %d", b, x, n, strike, got, e)
		}
	}
	if met[true] < 500 || met[false] < 500 {
		t.Errorf("too few of one kind: %v", met)
	}
}

// P7.1: Known of the book b, and of books near it.
func TestKnownOfB(t *testing.T) {
	for name, x := range map[string]struct {
		b             api.MouldBook
		mould, strike int
		sure, can     int
		e             api.Errno
	}{
		"the strike 1":        {bookB(), 0, 1, 1, 1, api.OK},
		"the strike 3":        {bookB(), 0, 3, 1, 1, api.OK},
		"the strike 4":        {bookB(), 0, 4, 1, 3, api.OK},
		"the strike 6":        {bookB(), 0, 6, 1, 3, api.OK},
		"the strike 7":        {bookB(), 0, 7, 1, 3, api.OK},
		"the strike 8":        {bookB(), 0, 8, 3, 3, api.OK},
		"the strike 36":       {bookB(), 0, 36, 3, 3, api.OK},
		"the copy's 1":        {bookB(), 1, 1, 1, 3, api.OK},
		"the copy's 3":        {bookB(), 1, 3, 1, 7, api.OK},
		"the copy's 4":        {bookB(), 1, 4, 5, 7, api.OK},
		"copied early":        {changed(func(b *api.MouldBook) { b.Moulds[1].Cut = span(0, 3) }), 1, 4, 4, 5, api.OK},
		"copied unused":       {changed(func(b *api.MouldBook) { b.Moulds[1].Cut = only(0) }), 1, 36, 4, 4, api.OK},
		"copied late":         {changed(func(b *api.MouldBook) { b.Moulds[1].Cut = span(8, 9) }), 1, 1, 3, 3, api.OK},
		"without marks":       {bareBook(), 0, 36, 0, 0, api.OK},
		"the mould 2":         {bookB(), 2, 1, 0, 0, api.ErrArg},
		"the mould -1":        {bookB(), -1, 1, 0, 0, api.ErrArg},
		"the strike 0":        {bookB(), 0, 0, 0, 0, api.ErrArg},
		"the strike 37":       {bookB(), 0, 37, 0, 0, api.ErrArg},
		"not possible":        {torn(), 1, 1, 0, 0, api.ErrRule},
		"ErrArg comes before": {torn(), 1, 37, 0, 0, api.ErrArg},
	} {
		sure, can, e := mould.Known(x.b, x.mould, x.strike)
		wantError(t, name, e, x.e, sure, can)
		if sure != x.sure || can != x.can {
			t.Errorf("%s: %d, %d, want %d, %d", name, sure, can, x.sure, x.can)
		}
	}
	for name, b := range badBooks() {
		sure, can, e := mould.Known(b, 0, 1)
		wantError(t, name, e, api.ErrArg, sure, can)
	}
}

// P7.1: Known returns what all truths say, and some of them, of small books; and what the definitions say mark by mark of large ones.
func TestKnownByChance(t *testing.T) {
	d := dice(2)
	for range 250 {
		b := smallBookBy(&d)
		k := tried(b)
		for at, want := range k.sure {
			if sure, can, e := mould.Known(b, at.mould, at.strike); e != api.OK || sure != want || can != k.can[at] {
				t.Fatalf("%v, %v: %d, %d, error %d, want %d, %d", b, at, sure, can, e, want, k.can[at])
			}
		}
	}
	for range 400 {
		b := bookBy(&d, large())
		n, strike := d.upTo(len(b.Moulds)-1), d.from(1, api.MouldStrikes)
		sure, can := 255, 0
		for set := range 256 {
			if canHave(b, n, strike, set) {
				sure, can = sure&set, can|set
			}
		}
		if s, c, e := mould.Known(b, n, strike); e != api.OK || s != sure || c != can {
			t.Fatalf("%v, %d, %d: %d, %d, error %d, want %d, %d", b, n, strike, s, c, e, sure, can)
		}
	}
}

// P7.1: whatever is true, a mould has what it surely has, nothing that it cannot have, and later all that it had before.
func TestKnownWhateverIsTrue(t *testing.T) {
	d := dice(3)
	for range 300 {
		b := bookBy(&d, large())
		for range 5 {
			x := truthBy(&d, b)
			n := d.upTo(len(b.Moulds) - 1)
			before := 0
			for strike := 1; strike <= api.MouldStrikes; strike++ {
				has, e := mould.Marks(b, x, n, strike)
				sure, can, f := mould.Known(b, n, strike)
				if e != api.OK || f != api.OK || sure&^has != 0 || has&^can != 0 || before&^has != 0 {
					t.Fatalf("%v, %v, %d, %d: %d, error %d; %d, %d, error %d; %d before", b, x, n, strike, has, e, sure, can, f, before)
				}
				before = has
			}
		}
	}
}
