package mould_test

import (
	"slices"
	"testing"

	"nacre/api"
	"nacre/mould"
)

// P7.2: Had of the book b, and of books near it.
func TestHadOfB(t *testing.T) {
	idle := changed(func(b *api.MouldBook) {
		// nobody strikes the mould in the loan 1, and perhaps somebody does in the loan 0
		b.Moulds[0].Loans = []api.MouldLoan{{House: 4, Strikes: span(0, 2)}, {House: 5}, {House: 3, Strikes: only(3)}}
	})
	for name, x := range map[string]struct {
		b             api.MouldBook
		mould, strike int
		want          []int
		e             api.Errno
	}{
		"the strike 1":        {bookB(), 0, 1, list(0), api.OK},
		"the strike 5":        {bookB(), 0, 5, list(0), api.OK},
		"the strike 6":        {bookB(), 0, 6, list(0, 1), api.OK},
		"the strike 7":        {bookB(), 0, 7, list(1), api.OK},
		"the strike 11":       {bookB(), 0, 11, list(1), api.OK},
		"the strike 12":       {bookB(), 0, 12, nil, api.ErrNone},
		"the copy's 8":        {bookB(), 1, 8, list(2), api.OK},
		"the copy's 9":        {bookB(), 1, 9, nil, api.ErrNone},
		"one house":           {changed(func(b *api.MouldBook) { b.Moulds[0].Loans[1].House = 0 }), 0, 6, list(0), api.OK},
		"turned houses":       {changed(func(b *api.MouldBook) { b.Moulds[0].Loans[0].House = 5 }), 0, 6, list(1, 5), api.OK},
		"idle, 1":             {idle, 0, 1, list(3, 4), api.OK},
		"idle, 2":             {idle, 0, 2, list(3, 4), api.OK},
		"idle, 3":             {idle, 0, 3, list(3), api.OK},
		"idle, 5":             {idle, 0, 5, list(3), api.OK},
		"idle, 6":             {idle, 0, 6, nil, api.ErrNone},
		"never struck":        {bareBook(), 0, 1, nil, api.ErrNone},
		"the mould 2":         {bookB(), 2, 1, nil, api.ErrArg},
		"the mould -1":        {bookB(), -1, 1, nil, api.ErrArg},
		"the strike 0":        {bookB(), 0, 0, nil, api.ErrArg},
		"the strike 37":       {bookB(), 0, 37, nil, api.ErrArg},
		"the strike 36":       {fullBook(), 0, 36, list(5), api.OK},
		"not possible":        {torn(), 1, 1, nil, api.ErrRule},
		"not possible, late":  {torn(), 1, 36, nil, api.ErrRule},
		"ErrArg comes before": {torn(), 1, 37, nil, api.ErrArg},
	} {
		got, e := mould.Had(x.b, x.mould, x.strike)
		wantError(t, name, e, x.e, got)
		if !slices.Equal(got, x.want) {
			t.Errorf("%s: %v, want %v", name, got, x.want)
		}
	}
	for name, b := range badBooks() {
		got, e := mould.Had(b, 0, 1)
		wantError(t, name, e, api.ErrArg, got)
	}
}

// P7.2: Had returns what some truths say of small books, and of the loans of large ones.
func TestHadByChance(t *testing.T) {
	d := dice(4)
	check := func(b api.MouldBook, n, strike int, want []int) {
		t.Helper()
		wantE := api.OK
		if len(want) == 0 {
			wantE = api.ErrNone
		}
		if got, e := mould.Had(b, n, strike); e != wantE || !slices.Equal(got, want) {
			t.Fatalf("%v, %d, %d: %v, error %d, want %v", b, n, strike, got, e, want)
		}
	}
	for range 150 {
		b := smallBookBy(&d)
		k := tried(b)
		for at := range k.sure {
			check(b, at.mould, at.strike, k.had(at.mould, at.strike))
		}
	}
	for range 100 {
		b := bookBy(&d, large())
		n := d.upTo(len(b.Moulds) - 1)
		m := b.Moulds[n]
		var houses [api.MouldStrikes + 1][]int
		for strikes := range loansOf(undated(m)) {
			strike := 0
			for loan, times := range strikes {
				for range times {
					strike++
					houses[strike] = append(houses[strike], m.Loans[loan].House)
				}
			}
		}
		for strike := 1; strike <= api.MouldStrikes; strike++ {
			check(b, n, strike, each(houses[strike]))
		}
	}
}

// P7.2: whatever is true, the house that has a mould at a strike is among those that are returned.
func TestHadWhateverIsTrue(t *testing.T) {
	d := dice(5)
	for range 500 {
		b := bookBy(&d, large())
		x := truthBy(&d, b)
		for n, m := range b.Moulds {
			for strike := 1; loanIn(x, n, strike) >= 0; strike++ {
				house := m.Loans[loanIn(x, n, strike)].House
				if got, e := mould.Had(b, n, strike); e != api.OK || !slices.Contains(got, house) {
					t.Fatalf("%v, %v, %d, %d: %v, error %d, want %d", b, x, n, strike, got, e, house)
				}
			}
		}
	}
}

// P7.3: Could, Between and Who of the books b and c, and of books near them.
func TestFindsOfB(t *testing.T) {
	ghost := changed(func(b *api.MouldBook) { b.Miss, b.Ghost = 0, 1 })
	// the loan 0 can begin as late as the loan 1
	late := changed(func(b *api.MouldBook) {
		b.Moulds[0].Loans[0].From, b.Moulds[0].Loans[1].From = span(3, 9), span(1, 9)
	})
	for name, x := range map[string]struct {
		b          api.MouldBook
		f          api.MouldFind
		mould      int
		could, who []int
		between    api.Span
	}{
		"5":                    {bookB(), find(5, 9), 1, list(1), list(2), span(3, 8)},
		"5, the other mould":   {bookB(), find(5, 9), 0, list(1), list(2), span(0, 0)},
		"1":                    {bookB(), find(1, 9), 0, list(0, 1), list(0, 1, 2), span(1, 11)},
		"1, the copy":          {bookB(), find(1, 9), 1, list(0, 1), list(0, 1, 2), span(1, 8)},
		"1 on the day 0":       {bookB(), find(1, 0), 0, nil, nil, span(0, 0)},
		"1 on the day 1":       {bookB(), find(1, 1), 0, list(0), list(0), span(1, 6)},
		"1 on the day 2":       {bookB(), find(1, 2), 0, list(0), list(0), span(1, 6)},
		"1 on the day 3":       {bookB(), find(1, 3), 1, list(0, 1), list(0, 2), span(1, 8)},
		"1 on the day 4":       {bookB(), find(1, 4), 0, list(0, 1), list(0, 2), span(1, 6)},
		"1 on the day 5":       {bookB(), find(1, 5), 0, list(0, 1), list(0, 1, 2), span(1, 11)},
		"3":                    {bookB(), find(3, 9), 0, list(0, 1), list(0, 1, 2), span(4, 11)},
		"3 on the day 99":      {bookB(), find(3, 99), 0, list(0, 1), list(0, 1, 2), span(4, 11)},
		"c: 3":                 {bookC(), find(3, 9), 1, list(0, 1), list(0, 1, 2), span(1, 3)},
		"c: 1":                 {bookC(), find(1, 9), 0, list(0, 1), list(0, 1, 2), span(1, 7)},
		"c: 0":                 {bookC(), find(0, 9), 0, nil, nil, span(0, 0)},
		"c: 7":                 {bookC(), find(7, 9), 1, list(1), list(2), span(3, 8)},
		"c: 8":                 {bookC(), find(8, 9), 1, nil, nil, span(0, 0)},
		"0":                    {bookB(), find(0, 9), 0, list(0, 1), list(0, 1, 2), span(1, 7)},
		"a ghost":              {ghost, find(9, 9), 0, list(0, 1), list(0, 1, 2), span(1, 7)},
		"a ghost of the copy":  {ghost, find(9, 9), 1, list(0, 1), list(0, 1, 2), span(1, 3)},
		"two ghosts":           {ghost, find(25, 9), 0, nil, nil, span(0, 0)},
		"no ghosts":            {bookB(), find(9, 9), 0, nil, nil, span(0, 0)},
		"all spots":            {bookB(), find(255, 9), 0, nil, nil, span(0, 0)},
		"the loan 1 is late":   {late, find(1, 2), 0, nil, nil, span(0, 0)},
		"it can begin as well": {late, find(1, 3), 0, list(0, 1), list(0, 1, 2), span(1, 11)},
		"never struck":         {bareBook(), find(0, 99), 0, nil, nil, span(0, 0)},
	} {
		wantFinds(t, name, x.b, x.f, x.mould, x.could, x.who, x.between)
	}
}

// wantFinds fails unless Could, Who and Between return what is wanted; a Between of 0 is none.
func wantFinds(t *testing.T, name string, b api.MouldBook, f api.MouldFind, n int, could, who []int, between api.Span) {
	t.Helper()
	if got, e := mould.Could(b, f); e != api.OK || !slices.Equal(got, could) {
		t.Errorf("%s: %v, %v: could %v, error %d, want %v", name, b, f, got, e, could)
	}
	if got, e := mould.Who(b, f); e != api.OK || !slices.Equal(got, who) {
		t.Errorf("%s: %v, %v: who %v, error %d, want %v", name, b, f, got, e, who)
	}
	wantE := api.OK
	if between == span(0, 0) {
		wantE = api.ErrNone
	}
	if got, e := mould.Between(b, f, n); e != wantE || got != between {
		t.Errorf("%s: %v, %v: between %v, error %d, want %v", name, b, f, got, e, between)
	}
}

// badFinds returns finds that are not as defined.
func badFinds() []api.MouldFind {
	return []api.MouldFind{find(256, 9), find(-1, 9), find(1, 100), find(1, -1), find(far, 9), find(-far-1, 9), find(1, far), find(1, -far-1)}
}

// P7.3 and P7.4: Could, Between, Who and Twice have ErrArg, and then ErrRule.
func TestFindsOfOthers(t *testing.T) {
	check := func(b api.MouldBook, f, g api.MouldFind, n int, could, between, twice api.Errno) {
		t.Helper()
		moulds, e := mould.Could(b, f)
		wantError(t, "Could", e, could, moulds)
		houses, e := mould.Who(b, f)
		wantError(t, "Who", e, could, houses)
		s, e := mould.Between(b, f, n)
		wantError(t, "Between", e, between, s)
		moulds, e = mould.Twice(b, f, g)
		wantError(t, "Twice", e, twice, moulds)
	}
	fine := find(1, 9)
	for _, b := range badBooks() {
		check(b, fine, fine, 0, api.ErrArg, api.ErrArg, api.ErrArg)
	}
	for _, f := range badFinds() {
		check(bookB(), f, fine, 0, api.ErrArg, api.ErrArg, api.ErrArg)
		check(bookB(), fine, f, 0, api.OK, api.OK, api.ErrArg)
		check(torn(), f, fine, 0, api.ErrArg, api.ErrArg, api.ErrArg)
		check(torn(), fine, f, 0, api.ErrRule, api.ErrRule, api.ErrArg)
	}
	for _, n := range []int{-1, 2, far, -far - 1} {
		check(bookB(), fine, fine, n, api.OK, api.ErrArg, api.OK)
		check(torn(), fine, fine, n, api.ErrRule, api.ErrArg, api.ErrRule)
	}
	check(torn(), fine, fine, 1, api.ErrRule, api.ErrRule, api.ErrRule)
}

// findBy returns a find by chance that some mould can have stamped, or one like it.
func findBy(d *dice, b api.MouldBook, x api.MouldTruth) api.MouldFind {
	return find(misread(d, b, hasIn(b, x, d.upTo(len(b.Moulds)-1), d.from(1, horizon))), d.upTo(horizon))
}

// P7.3 and P7.4: Could, Between, Who and Twice return what the truths of small books say.
func TestFindsByChance(t *testing.T) {
	d := dice(6)
	some, pairs := 0, 0
	for range 300 {
		b := smallBookBy(&d)
		k := tried(b)
		for range 20 {
			x := truthBy(&d, b)
			f, g := findBy(&d, b, x), findBy(&d, b, x)
			moulds, houses := k.could(f)
			n := d.upTo(len(b.Moulds) - 1)
			wantFinds(t, "by chance", b, f, n, moulds, houses, k.between(f, n).Span)
			want := k.twice(f, g)
			if got, e := mould.Twice(b, f, g); e != api.OK || !slices.Equal(got, want) {
				t.Errorf("%v, %v, %v: %v, error %d, want %v", b, f, g, got, e, want)
			}
			some, pairs = some+len(moulds), pairs+len(want)
		}
		if t.Failed() {
			return
		}
	}
	if some < 1000 || pairs < 1000 {
		t.Errorf("only %d moulds, and %d of two finds", some, pairs)
	}
}

// P7.3: Could, Between and Who return what the definitions say of large books, mark by mark and loan by loan.
func TestFindsOfLarge(t *testing.T) {
	d := dice(7)
	for range 60 {
		b := bookBy(&d, large())
		x := truthBy(&d, b)
		n := d.upTo(len(b.Moulds) - 1)
		f := find(misread(&d, b, hasIn(b, x, n, d.from(1, 36))), d.upTo(40))
		var moulds, houses []int
		var between ends
		for i, m := range b.Moulds {
			var agree [api.MouldStrikes + 1]bool
			for strike := 1; strike <= api.MouldStrikes; strike++ {
				for set := range 256 {
					agree[strike] = agree[strike] || isRead(b, f.Seen, set) && canHave(b, i, strike, set)
				}
			}
			for strikes, days := range loansOf(shortened(m)) {
				strike := 0
				for loan, times := range strikes {
					for range times {
						strike++
						if days[loan] > f.Day || !agree[strike] {
							continue
						}
						moulds, houses = each(append(moulds, i)), each(append(houses, m.Loans[loan].House))
						if i == n {
							between.add(strike)
						}
					}
				}
			}
		}
		wantFinds(t, "large", b, f, n, moulds, houses, between.Span)
	}
}

// shortened returns a mould that has of the days on which a loan can begin only some that decide: its first one, and the first ones of others.
func shortened(m api.MouldMould) api.MouldMould {
	m.Loans = slices.Clone(m.Loans)
	day := 0
	for i, l := range m.Loans {
		day = max(day, l.From.Low)
		m.Loans[i].From = span(max(l.From.Low, day-1), min(l.From.High, day+1))
	}
	return m
}

// P7.3 and P7.4: whatever is true, the mould of a crest, its strike and its house are among those that are returned; the mould of two crests too.
func TestFindsWhateverIsTrue(t *testing.T) {
	d := dice(8)
	for range 1500 {
		b := bookBy(&d, large())
		x := truthBy(&d, b)
		n := d.upTo(len(b.Moulds) - 1)
		strike, later := d.from(1, 20), d.from(2, 36)
		loan := loanIn(x, n, strike)
		if loan < 0 {
			continue
		}
		f := find(misread(&d, b, hasIn(b, x, n, strike)), d.from(x.Days[n][loan], 99))
		could, e := mould.Could(b, f)
		who, g := mould.Who(b, f)
		s, h := mould.Between(b, f, n)
		if e != api.OK || g != api.OK || h != api.OK || !slices.Contains(could, n) || !slices.Contains(who, b.Moulds[n].Loans[loan].House) || strike < s.Low || strike > s.High {
			t.Fatalf("%v, %v, %v, the strike %d of %d: %v, %v, %v", b, x, f, strike, n, could, who, s)
		}
		loan = loanIn(x, n, later)
		if later <= strike || loan < 0 {
			continue
		}
		second := find(misread(&d, b, hasIn(b, x, n, later)), d.from(x.Days[n][loan], 99))
		twice, e := mould.Twice(b, f, second)
		after, _ := mould.Could(b, second)
		if e != api.OK || !slices.Contains(twice, n) {
			t.Fatalf("%v, %v, %v, %v, the strikes %d and %d of %d: %v, error %d", b, x, f, second, strike, later, n, twice, e)
		}
		for _, i := range twice {
			if !slices.Contains(could, i) || !slices.Contains(after, i) {
				t.Fatalf("%v, %v, %v: %v, but %v and %v", b, f, second, twice, could, after)
			}
		}
	}
}

// P7.4: Twice of the books b and c, and of books near them.
func TestTwiceOfB(t *testing.T) {
	one := changed(func(b *api.MouldBook) { b.Miss, b.Moulds[1].Loans[0].Strikes = 0, span(0, 1) })
	two := changed(func(b *api.MouldBook) { b.Miss, b.Moulds[1].Loans[0].Strikes = 0, span(0, 2) })
	// the mark of the mould 0 can come at the strike 6 alone: then it was lent to the house 1, if it was struck 5 times before
	exact := changed(func(b *api.MouldBook) { b.Miss, b.Moulds[0].Marks[1].First = 0, only(6) })
	for name, x := range map[string]struct {
		b    api.MouldBook
		f, g api.MouldFind
		want []int
	}{
		"b: 3, 1":                     {bookB(), find(3, 9), find(1, 9), list(0, 1)},
		"c: 3, 1":                     {bookC(), find(3, 9), find(1, 9), nil},
		"c: 1, 3":                     {bookC(), find(1, 9), find(3, 9), list(0)},
		"c: 1, 5":                     {bookC(), find(1, 9), find(5, 9), list(1)},
		"c: 3, 7":                     {bookC(), find(3, 9), find(7, 9), list(1)},
		"c: 1, 7":                     {bookC(), find(1, 9), find(7, 9), nil},
		"c: 3, 5":                     {bookC(), find(3, 9), find(5, 9), nil},
		"c: 1, 1":                     {bookC(), find(1, 9), find(1, 9), list(0, 1)},
		"c: 3, 3":                     {bookC(), find(3, 9), find(3, 9), list(0, 1)},
		"c: 1, then on the day 0":     {bookC(), find(1, 9), find(3, 0), nil},
		"c: 1 on the day 0, then":     {bookC(), find(1, 0), find(3, 9), nil},
		"c: both on the day 2":        {bookC(), find(1, 2), find(3, 2), list(0)},
		"c: both on the day 1":        {bookC(), find(1, 1), find(3, 1), list(0)},
		"c: 1 late, then on day 2":    {bookC(), find(1, 9), find(1, 2), list(0)},
		"one strike alone":            {one, find(1, 9), find(1, 9), list(0)},
		"two strikes":                 {two, find(1, 9), find(1, 9), list(0, 1)},
		"no mark so early":            {two, find(1, 9), find(5, 9), nil},
		"the strike 6 of the house 0": {exact, find(1, 2), find(3, 2), list(0)},
		"not twice with the mark":     {exact, find(3, 2), find(3, 2), nil},
		"twice with the mark later":   {exact, find(3, 2), find(3, 5), list(0)},
		"never struck":                {bareBook(), find(0, 99), find(0, 99), nil},
	} {
		if got, e := mould.Twice(x.b, x.f, x.g); e != api.OK || !slices.Equal(got, x.want) {
			t.Errorf("%s: %v, error %d, want %v", name, got, e, x.want)
		}
	}
}

// P7.5: Proves of the books b and c, and of books near them.
func TestProvesOfB(t *testing.T) {
	spans := func(s ...api.Span) []api.Span { return s }
	for name, x := range map[string]struct {
		b                   api.MouldBook
		mould, strike, seen int
		want                []api.Span
		e                   api.Errno
	}{
		"b: 1":                    {bookB(), 0, 6, 1, spans(only(1), span(4, 8)), api.OK},
		"c: 1":                    {bookC(), 0, 6, 1, spans(only(1), span(7, 8)), api.OK},
		"c: 1 at the strike 7":    {bookC(), 0, 7, 1, spans(only(1), only(8)), api.OK},
		"c: 1 at the strike 8":    {bookC(), 0, 8, 1, nil, api.ErrNone},
		"c: 1 at the strike 2":    {bookC(), 0, 2, 1, spans(only(1), span(4, 8)), api.OK},
		"c: 3":                    {bookC(), 0, 6, 3, spans(only(1), span(4, 6)), api.OK},
		"c: 3 at the strike 36":   {bookC(), 0, 36, 3, spans(only(1), span(4, 8)), api.OK},
		"c: 3 at the strike 3":    {bookC(), 0, 3, 3, nil, api.ErrNone},
		"c: 2":                    {bookC(), 0, 6, 2, nil, api.ErrNone},
		"b: 2":                    {bookB(), 0, 6, 2, spans(only(1), span(4, 6)), api.OK},
		"b: the copy, 5 at 4":     {bookB(), 1, 4, 5, spans(span(3, 4)), api.OK},
		"b: the copy, 5 at 3":     {bookB(), 1, 3, 5, spans(only(3)), api.OK},
		"b: the copy, 0 at 3":     {bookB(), 1, 3, 0, spans(only(4)), api.OK},
		"b: the copy, 1 at 3":     {bookB(), 1, 3, 1, spans(span(3, 4)), api.OK},
		"c: the copy, 1 at 3":     {bookC(), 1, 3, 1, spans(only(4)), api.OK},
		"c: the copy, 4 at 3":     {bookC(), 1, 3, 4, nil, api.ErrNone},
		"c: the copy, 3 at 2":     {bookC(), 1, 2, 3, spans(span(3, 4)), api.OK},
		"c: no loan, the same":    {bookC(), 1, 9, 7, spans(span(3, 4)), api.OK},
		"no marks":                {bareBook(), 0, 1, 0, nil, api.OK},
		"no marks, and a spot":    {bareBook(), 0, 1, 1, nil, api.ErrNone},
		"the mould 2":             {bookB(), 2, 6, 1, nil, api.ErrArg},
		"the mould -1":            {bookB(), -1, 6, 1, nil, api.ErrArg},
		"the strike 0":            {bookB(), 0, 0, 1, nil, api.ErrArg},
		"the strike 37":           {bookB(), 0, 37, 1, nil, api.ErrArg},
		"the set 256":             {bookB(), 0, 6, 256, nil, api.ErrArg},
		"the set -1":              {bookB(), 0, 6, -1, nil, api.ErrArg},
		"the set 255":             {bookB(), 0, 6, 255, nil, api.ErrNone},
		"not possible":            {torn(), 0, 6, 1, nil, api.ErrRule},
		"not possible, the other": {torn(), 1, 4, 5, nil, api.ErrRule},
		"ErrRule before ErrNone":  {torn(), 0, 6, 255, nil, api.ErrRule},
		"ErrArg before ErrRule":   {torn(), 0, 6, 256, nil, api.ErrArg},
	} {
		got, e := mould.Proves(x.b, x.mould, x.strike, x.seen)
		wantError(t, name, e, x.e, got)
		if !slices.Equal(got, x.want) {
			t.Errorf("%s: %v, want %v", name, got, x.want)
		}
	}
	for name, b := range badBooks() {
		got, e := mould.Proves(b, 0, 1, 1)
		wantError(t, name, e, api.ErrArg, got)
	}
}

// P7.5: Proves returns what the truths of small books say.
func TestProvesByChance(t *testing.T) {
	d := dice(9)
	met := map[bool]int{}
	for range 300 {
		b := smallBookBy(&d)
		k := tried(b)
		for range 10 {
			n, strike := d.upTo(len(b.Moulds)-1), d.from(1, horizon)
			seen := findBy(&d, b, truthBy(&d, b)).Seen
			want, some := k.proves(n, strike, seen)
			wantE := api.OK
			if !some {
				want, wantE = nil, api.ErrNone
			}
			if got, e := mould.Proves(b, n, strike, seen); e != wantE || !slices.Equal(got, want) {
				t.Fatalf("%v, %d, %d, %d: %v, error %d, want %v", b, n, strike, seen, got, e, want)
			}
			met[some]++
		}
	}
	if met[true] < 500 || met[false] < 200 {
		t.Errorf("too few of one kind: %v", met)
	}
}

// P7.5: whatever is true, if the set agrees, each mark's First lies within its bounds.
func TestProvesWhateverIsTrue(t *testing.T) {
	d := dice(10)
	narrower := 0
	for range 1500 {
		b := bookBy(&d, large())
		x := truthBy(&d, b)
		n, strike := d.upTo(len(b.Moulds)-1), d.from(1, api.MouldStrikes)
		got, e := mould.Proves(b, n, strike, misread(&d, b, hasIn(b, x, n, strike)))
		if e != api.OK || len(got) != len(x.First[n]) {
			t.Fatalf("%v, %v, %d, %d: %v, error %d", b, x, n, strike, got, e)
		}
		for i, s := range got {
			first := b.Moulds[n].Marks[i].First
			if x.First[n][i] < s.Low || x.First[n][i] > s.High || s.Low < first.Low || s.High > first.High {
				t.Fatalf("%v, %v, %d, %d: %v", b, x, n, strike, got)
			}
			if s != first {
				narrower++
			}
		}
	}
	if narrower < 100 {
		t.Errorf("only %d are narrower", narrower)
	}
}
