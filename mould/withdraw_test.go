package mould_test

import (
	"slices"
	"testing"

	"nacre/api"
	"nacre/mould"
)

// kin returns a book of two moulds that can be confused, and were lent to one house alone.
func kin() api.MouldBook {
	return changed(func(b *api.MouldBook) {
		b.Miss, b.Moulds[0].Loans[0].House, b.Moulds[0].Loans[1].House = 0, 2, 2
	})
}

// strangers returns a book of moulds with one mark each, all in other spots, and lent to other houses; they do not change.
func strangers(moulds int) api.MouldBook {
	var b api.MouldBook
	for n := range moulds {
		b.Moulds = append(b.Moulds, api.MouldMould{
			Parent: -1, Marks: []api.MouldMark{{Spot: n, First: only(1)}}, Loans: []api.MouldLoan{{House: n, Strikes: only(3)}},
		})
	}
	return b
}

// P7.6: Confused of the books b and c, and of books near them.
func TestConfusedOfB(t *testing.T) {
	two := strangers(2)
	for name, x := range map[string]struct {
		b          api.MouldBook
		one, other int
		want       int
		e          api.Errno
	}{
		"b":                    {bookB(), 0, 1, 0, api.OK},
		"b turned":             {bookB(), 1, 0, 0, api.OK},
		"c":                    {bookC(), 0, 1, 1, api.OK},
		"of one house":         {kin(), 0, 1, 1, api.OK},
		"strangers":            {two, 0, 1, 0, api.ErrNone},
		"strangers, Miss 1":    {api.MouldBook{Miss: 1, Moulds: two.Moulds}, 0, 1, 0, api.OK},
		"strangers, Ghost 1":   {api.MouldBook{Ghost: 1, Moulds: two.Moulds}, 1, 0, 3, api.OK},
		"a copy in use":        {changed(func(b *api.MouldBook) { b.Miss, b.Moulds[0].Loans[0].Strikes = 0, only(1) }), 0, 1, 1, api.OK},
		"a worn copy":          {changed(func(b *api.MouldBook) { b.Miss, b.Moulds[1].Marks[0].First = 0, only(1) }), 0, 1, 0, api.ErrNone},
		"late, by the strikes": {changed(func(b *api.MouldBook) { b.Miss, b.Moulds[1].Cut = 0, only(8) }), 0, 1, 3, api.OK},
		"only a loan's": {changed(func(b *api.MouldBook) {
			b.Moulds[0].Loans = b.Moulds[0].Loans[:1]
			b.Miss, b.Moulds[1].Cut = 0, only(8)
			b.Moulds[0].Marks[1].First = span(7, 8)
		}), 0, 1, 0, api.ErrNone},
		"never struck":         {idle(bookB(), list(1)), 0, 1, 0, api.ErrNone},
		"never struck, turned": {idle(bookB(), list(1)), 1, 0, 0, api.ErrNone},
		"the same":             {bookB(), 0, 0, 0, api.ErrArg},
		"the mould 2":          {bookB(), 0, 2, 0, api.ErrArg},
		"the mould 2, turned":  {bookB(), 2, 0, 0, api.ErrArg},
		"the mould -1":         {bookB(), -1, 0, 0, api.ErrArg},
		"the mould -1, turned": {bookB(), 0, -1, 0, api.ErrArg},
		"both far":             {bookB(), far, -far - 1, 0, api.ErrArg},
		"not possible":         {torn(), 0, 1, 0, api.ErrRule},
		"not possible, same":   {torn(), 1, 1, 0, api.ErrArg},
		"not possible, idle":   {changed(func(b *api.MouldBook) { *b = torn(); b.Moulds[1].Loans[0].Strikes = only(0) }), 0, 1, 0, api.ErrRule},
	} {
		got, e := mould.Confused(x.b, x.one, x.other)
		wantError(t, name, e, x.e, got)
		if got != x.want {
			t.Errorf("%s: %d, want %d", name, got, x.want)
		}
	}
	for name, b := range badBooks() {
		got, e := mould.Confused(b, 0, 1)
		wantError(t, name, e, api.ErrArg, got)
	}
}

// P7.7: Clear of the books b and c, and of books near them.
func TestClearOfB(t *testing.T) {
	for name, x := range map[string]struct {
		b    api.MouldBook
		gone []int
		want bool
		e    api.Errno
	}{
		"b":                   {bookB(), nil, false, api.OK},
		"b without 0":         {bookB(), list(0), true, api.OK},
		"b without 1":         {bookB(), list(1), false, api.OK},
		"b without both":      {bookB(), list(0, 1), true, api.OK},
		"c without 1":         {bookC(), list(1), false, api.OK},
		"one house":           {kin(), nil, true, api.OK},
		"one house without 0": {kin(), list(0), true, api.OK},
		"strangers":           {strangers(5), nil, true, api.OK},
		"strangers, less":     {strangers(5), list(1, 3), true, api.OK},
		"strangers, none":     {strangers(5), list(0, 1, 2, 3, 4), true, api.OK},
		"strangers, misread":  {changed(func(b *api.MouldBook) { *b = strangers(2); b.Miss = 1 }), nil, false, api.OK},
		"strangers, ghosts":   {changed(func(b *api.MouldBook) { *b = strangers(2); b.Ghost = 1 }), nil, false, api.OK},
		"two houses of one": {changed(func(b *api.MouldBook) {
			*b = strangers(1)
			b.Moulds[0].Loans = append(b.Moulds[0].Loans, b.Moulds[0].Loans[0])
			b.Moulds[0].Loans[1].House = 1
		}), nil, false, api.OK},
		"a mark comes between": {changed(func(b *api.MouldBook) {
			*b = strangers(1)
			b.Moulds[0].Loans = append(b.Moulds[0].Loans, b.Moulds[0].Loans[0])
			b.Moulds[0].Loans[1].House = 1
			b.Moulds[0].Marks[0].First = only(4)
		}), nil, true, api.OK},
		"whatever the day": {changed(func(b *api.MouldBook) {
			b.Moulds[0].Loans = b.Moulds[0].Loans[:1]
			b.Moulds[0].Loans[0].From = only(99)
		}), nil, false, api.OK},
		"never struck": {changed(func(b *api.MouldBook) {
			b.Moulds[0].Loans = b.Moulds[0].Loans[:1]
			b.Moulds[1].Loans[0].Strikes = only(0)
		}), nil, true, api.OK},
		"turned":              {bookB(), list(1, 0), false, api.ErrArg},
		"twice":               {bookB(), list(0, 0), false, api.ErrArg},
		"the mould 2":         {bookB(), list(2), false, api.ErrArg},
		"the mould 2 behind":  {bookB(), list(0, 2), false, api.ErrArg},
		"the mould -1":        {bookB(), list(-1), false, api.ErrArg},
		"the mould -1 before": {bookB(), list(-1, 0), false, api.ErrArg},
		"far above":           {bookB(), list(far), false, api.ErrArg},
		"far too many":        {bookB(), make([]int, 100000), false, api.ErrArg},
		"not possible":        {torn(), nil, false, api.ErrRule},
		"not possible, gone":  {torn(), list(0), false, api.ErrRule},
		"ErrArg comes before": {torn(), list(0, 0), false, api.ErrArg},
	} {
		got, e := mould.Clear(x.b, x.gone)
		wantError(t, name, e, x.e, got)
		if got != x.want {
			t.Errorf("%s: %v, want %v", name, got, x.want)
		}
	}
	for name, b := range badBooks() {
		got, e := mould.Clear(b, nil)
		wantError(t, name, e, api.ErrArg, got)
	}
}

// P7.7: Withdraw of the books b and c, and of books near them.
func TestWithdrawOfB(t *testing.T) {
	twins := func(spots ...int) api.MouldBook {
		b := strangers(len(spots))
		for i, spot := range spots {
			b.Moulds[i].Marks[0].Spot = spot
		}
		return b
	}
	for name, x := range map[string]struct {
		b    api.MouldBook
		want []int
		e    api.Errno
	}{
		"b":               {bookB(), list(0), api.OK},
		"c":               {bookC(), list(0), api.OK},
		"one house":       {kin(), nil, api.OK},
		"strangers":       {strangers(5), nil, api.OK},
		"one mould":       {changed(func(b *api.MouldBook) { b.Moulds = b.Moulds[:1] }), list(0), api.OK},
		"one of two":      {twins(3, 3), list(0), api.OK},
		"two of three":    {twins(3, 3, 3), list(0, 1), api.OK},
		"the later one":   {twins(2, 3, 3), list(1), api.OK},
		"one of each two": {twins(2, 3, 3, 2), list(0, 1), api.OK},
		"the first ones":  {twins(3, 2, 2, 3, 4), list(0, 1), api.OK},
		"four of five":    {twins(1, 1, 1, 1, 1), list(0, 1, 2, 3), api.OK},
		"fewer, though later": {changed(func(b *api.MouldBook) {
			*b = twins(1, 2, 3, 4)
			b.Moulds[3].Marks = append(b.Moulds[3].Marks, marksAt(span(1, 9), 1, 2, 3)...)
			b.Moulds[3].Marks[0].First = span(1, 9)
		}), list(3), api.OK},
		"all of them, all confusing": {changed(func(b *api.MouldBook) { *b = twins(1, 2); alsoTo(b, 5) }), list(0, 1), api.OK},
		"never struck":               {bareBook(), nil, api.OK},
		"not possible":               {torn(), nil, api.ErrRule},
	} {
		got, e := mould.Withdraw(x.b)
		wantError(t, name, e, x.e, got)
		if !slices.Equal(got, x.want) {
			t.Errorf("%s: %v, want %v", name, got, x.want)
		}
	}
	for name, b := range badBooks() {
		got, e := mould.Withdraw(b)
		wantError(t, name, e, api.ErrArg, got)
	}
}

// marksAt returns marks in spots.
func marksAt(first api.Span, spots ...int) []api.MouldMark {
	var marks []api.MouldMark
	for _, spot := range spots {
		marks = append(marks, api.MouldMark{Spot: spot, First: first})
	}
	return marks
}

// alsoTo lends all moulds of a book to one house more.
func alsoTo(b *api.MouldBook, house int) {
	for i := range b.Moulds {
		m := &b.Moulds[i]
		m.Loans = append(slices.Clone(m.Loans), api.MouldLoan{House: house, Strikes: only(1)})
	}
}

// P7.6 and P7.7: Confused, Clear and Withdraw return what the truths of small books say.
func TestWithdrawalByChance(t *testing.T) {
	d := dice(11)
	withdrawn, clear := map[int]int{}, map[bool]int{}
	for range 250 {
		b := smallBookBy(&d)
		led := tried(b).led()
		checkWithdrawal(t, b, led)
		got, _ := mould.Withdraw(b)
		withdrawn[len(got)]++
		clear[isClear(led)]++
		if t.Failed() {
			return
		}
	}
	if withdrawn[0] < 20 || withdrawn[1] < 20 || withdrawn[2] < 10 || clear[true] < 20 || clear[false] < 20 {
		t.Errorf("too few of one kind: %v, %v", withdrawn, clear)
	}
}

// checkWithdrawal fails unless Confused, Clear and Withdraw are right for a book of which it is known where sets lead.
func checkWithdrawal(t *testing.T, b api.MouldBook, led [256][api.MouldMany]int) {
	t.Helper()
	for one := range b.Moulds {
		for other := range b.Moulds {
			if one == other {
				continue
			}
			want, some := confusedBy(led, one, other)
			wantE := api.OK
			if !some {
				wantE = api.ErrNone
			}
			if got, e := mould.Confused(b, one, other); e != wantE || got != want {
				t.Errorf("%v: %d and %d confused by %d, error %d, want %d", b, one, other, got, e, want)
			}
		}
	}
	var best []int
	for i, gone := range slices.Backward(lists(len(b.Moulds))) {
		want := isClear(led, gone...)
		if got, e := mould.Clear(b, gone); e != api.OK || got != want {
			t.Errorf("%v without %v is clear: %v, error %d", b, gone, got, e)
		}
		if want {
			best = lists(len(b.Moulds))[i]
		}
	}
	if got, e := mould.Withdraw(b); e != api.OK || !slices.Equal(got, best) {
		t.Errorf("%v: withdraw %v, error %d, want %v", b, got, e, best)
	}
}

// P7.6 and P7.7: Confused, Clear and Withdraw return what the definitions say of large books, mark by mark and loan by loan.
func TestWithdrawalOfLarge(t *testing.T) {
	d := dice(12)
	withdrawn := map[int]int{}
	for range 40 {
		b := bookBy(&d, early(&d))
		checkWithdrawal(t, b, ledOf(b))
		got, _ := mould.Withdraw(b)
		withdrawn[len(got)]++
		if t.Failed() {
			return
		}
	}
	if len(withdrawn) < 4 {
		t.Errorf("too few of one kind: %v", withdrawn)
	}
}

// ledOf returns to which houses each set of spots leads, by each mould, mark by mark and loan by loan.
func ledOf(b api.MouldBook) [256][api.MouldMany]int {
	var led [256][api.MouldMany]int
	for n, m := range b.Moulds {
		var houses [api.MouldStrikes + 1]int
		for strikes := range loansOf(undated(m)) {
			strike := 0
			for loan, times := range strikes {
				for range times {
					strike++
					houses[strike] |= 1 << m.Loans[loan].House
				}
			}
		}
		for had := range 256 {
			to := 0
			for strike, of := range houses {
				if of&^to != 0 && canHave(b, n, strike, had) {
					to |= of
				}
			}
			for seen := range led {
				if isRead(b, seen, had) {
					led[seen][n] |= to
				}
			}
		}
	}
	return led
}

// P7.6: a set that both moulds can have stamped is no less than the one that is returned.
func TestConfusedProposed(t *testing.T) {
	d := dice(13)
	for range 300 {
		b := bookBy(&d, large())
		if len(b.Moulds) < 2 {
			continue
		}
		one, other := 0, d.from(1, len(b.Moulds)-1)
		set, e := mould.Confused(b, one, other)
		for range 10 {
			seen := d.upTo(255)
			could, f := mould.Could(b, find(seen, api.MouldDays))
			both := slices.Contains(could, one) && slices.Contains(could, other)
			if f != api.OK || both && (e != api.OK || seen < set) || e == api.OK && seen == set && !both {
				t.Fatalf("%v, %d and %d: %d, error %d, but %d is of %v", b, one, other, set, e, seen, could)
			}
		}
	}
}

// P7.7 and P0.7: if moulds are clear, whatever is true, each crest that they stamp leads to the house that stamped it, and to no other.
func TestClearWhateverIsTrue(t *testing.T) {
	d := dice(14)
	led := 0
	for range 2000 {
		b := bookBy(&d, large())
		gone, e := mould.Withdraw(b)
		if e != api.OK {
			t.Fatal(b, e)
		}
		x := truthBy(&d, b)
		n, strike := d.upTo(len(b.Moulds)-1), d.from(1, 20)
		loan := loanIn(x, n, strike)
		if loan < 0 || slices.Contains(gone, n) {
			continue
		}
		f := find(misread(&d, b, hasIn(b, x, n, strike)), d.from(x.Days[n][loan], api.MouldDays))
		house := b.Moulds[n].Loans[loan].House
		if who, e := mould.Who(idle(b, gone), f); e != api.OK || !slices.Equal(who, list(house)) {
			t.Fatalf("%v without %v, %v: %v, error %d, want %d", b, gone, f, who, e, house)
		}
		if len(gone) == 0 {
			led++
		}
	}
	if led < 50 {
		t.Errorf("only %d of clear moulds", led)
	}
}

// idle returns a book some moulds of which were never struck.
func idle(b api.MouldBook, moulds []int) api.MouldBook {
	b.Moulds = slices.Clone(b.Moulds)
	for _, n := range moulds {
		b.Moulds[n].Loans = make([]api.MouldLoan, 1)
	}
	return b
}
