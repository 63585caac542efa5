package order_test

import (
	"iter"
	"slices"
	"testing"

	"nacre/api"
	"nacre/order"
)

// sellersL returns the sellers of the chapter.
func sellersL() []api.OrderSeller {
	return []api.OrderSeller{
		{Parcel: 20, Stock: list(10, 5), Price: list(3, 4)},
		{Parcel: 5, Stock: list(10, 2), Price: list(4, 5)},
	}
}

// changedSellers returns the sellers of the chapter with some change.
func changedSellers(change func(l []api.OrderSeller)) []api.OrderSeller {
	l := sellersL()
	change(l)
	return l
}

// badMarkets returns sellers and what is wanted that are not as defined.
func badMarkets() map[string]func(l *[]api.OrderSeller, wants *[]int) {
	type sellers = *[]api.OrderSeller
	return map[string]func(l sellers, wants *[]int){
		"no sellers":             func(l sellers, _ *[]int) { *l = nil },
		"5 sellers":              func(l sellers, _ *[]int) { *l = slices.Repeat((*l)[:1], 5) },
		"many sellers":           func(l sellers, _ *[]int) { *l = slices.Repeat(*l, 100000) },
		"nothing is wanted":      func(_ sellers, wants *[]int) { *wants = nil },
		"nothing at all":         func(l sellers, wants *[]int) { *l, *wants = []api.OrderSeller{{}}, nil },
		"6 goods":                func(l sellers, wants *[]int) { *l, *wants = []api.OrderSeller{stocked(6)}, make([]int, 6) },
		"many goods":             func(l sellers, wants *[]int) { *l, *wants = []api.OrderSeller{stocked(100000)}, make([]int, 100000) },
		"a good less is wanted":  func(_ sellers, wants *[]int) { *wants = (*wants)[:1] },
		"a good more is wanted":  func(_ sellers, wants *[]int) { *wants = append(*wants, 0) },
		"401 are wanted":         func(_ sellers, wants *[]int) { (*wants)[1] = 401 },
		"-1 is wanted":           func(_ sellers, wants *[]int) { (*wants)[0] = -1 },
		"far is wanted":          func(_ sellers, wants *[]int) { (*wants)[1] = far },
		"far below is wanted":    func(_ sellers, wants *[]int) { (*wants)[0] = -far - 1 },
		"a Parcel of -1":         func(l sellers, _ *[]int) { (*l)[1].Parcel = -1 },
		"a Parcel of 1001":       func(l sellers, _ *[]int) { (*l)[0].Parcel = 1001 },
		"a Parcel far":           func(l sellers, _ *[]int) { (*l)[1].Parcel = far },
		"a Stock of -1":          func(l sellers, _ *[]int) { (*l)[1].Stock[1] = -1 },
		"a Stock of 101":         func(l sellers, _ *[]int) { (*l)[0].Stock[0] = 101 },
		"a Stock far":            func(l sellers, _ *[]int) { (*l)[1].Stock[0] = far },
		"a Stock far below":      func(l sellers, _ *[]int) { (*l)[1].Stock[0] = -far - 1 },
		"a Price of -1":          func(l sellers, _ *[]int) { (*l)[1].Price[0] = -1 },
		"a Price of 1001":        func(l sellers, _ *[]int) { (*l)[0].Price[1] = 1001 },
		"a Price far":            func(l sellers, _ *[]int) { (*l)[1].Price[1] = far },
		"a Stock less":           func(l sellers, _ *[]int) { (*l)[1].Stock = list(10) },
		"a Stock more":           func(l sellers, _ *[]int) { (*l)[0].Stock = list(10, 5, 0) },
		"no Stock":               func(l sellers, _ *[]int) { (*l)[0].Stock = nil },
		"a Price less":           func(l sellers, _ *[]int) { (*l)[0].Price = list(3) },
		"a Price more":           func(l sellers, _ *[]int) { (*l)[1].Price = list(4, 5, 0) },
		"no Price":               func(l sellers, _ *[]int) { (*l)[1].Price = nil },
		"too much, and 1001":     func(l sellers, wants *[]int) { (*l)[1].Price[1], (*wants)[0] = 1001, 400 },
		"one who is bad, alone":  func(l sellers, _ *[]int) { *l = []api.OrderSeller{{Parcel: -1, Stock: list(10, 5), Price: list(3, 4)}} },
		"one of whom is nothing": func(l sellers, _ *[]int) { *l = append(*l, api.OrderSeller{}) },
	}
}

// stocked returns a seller with nothing of so many goods.
func stocked(many int) api.OrderSeller {
	return api.OrderSeller{Stock: make([]int, many), Price: make([]int, many)}
}

// P9.6: Costs of purchases from the chapter's sellers.
func TestCostsOfL(t *testing.T) {
	for name, x := range map[string]struct {
		wants []int
		plan  [][]int
		want  int
		e     api.Errno
	}{
		"the best":                   {list(10, 5), lists(list(10, 5), list(0, 0)), 70, api.OK},
		"another one":                {list(10, 5), lists(list(10, 3), list(0, 2)), 77, api.OK},
		"most of the other":          {list(10, 5), lists(list(0, 3), list(10, 2)), 87, api.OK},
		"all":                        {list(20, 7), lists(list(10, 5), list(10, 2)), 125, api.OK},
		"nothing":                    {list(0, 0), lists(list(0, 0), list(0, 0)), 0, api.OK},
		"one piece":                  {list(0, 1), lists(list(0, 0), list(0, 1)), 10, api.OK},
		"fewer than wanted":          {list(10, 5), lists(list(10, 4), list(0, 0)), 0, api.ErrArg},
		"more than wanted":           {list(10, 5), lists(list(10, 5), list(0, 1)), 0, api.ErrArg},
		"as many, but of the other":  {list(10, 5), lists(list(9, 5), list(0, 1)), 0, api.ErrArg},
		"more than the Stock":        {list(10, 5), lists(list(10, 2), list(0, 3)), 0, api.ErrArg},
		"more than the first one's":  {list(11, 5), lists(list(11, 5), list(0, 0)), 0, api.ErrArg},
		"less than nothing":          {list(9, 5), lists(list(10, 5), list(-1, 0)), 0, api.ErrArg},
		"more, and less than 0":      {list(10, 5), lists(list(11, 5), list(-1, 0)), 0, api.ErrArg},
		"a seller less":              {list(10, 5), lists(list(10, 5)), 0, api.ErrArg},
		"a seller more":              {list(10, 5), lists(list(10, 5), list(0, 0), list(0, 0)), 0, api.ErrArg},
		"no sellers":                 {list(0, 0), nil, 0, api.ErrArg},
		"one of the goods less":      {list(10, 5), lists(list(10, 5), list(0)), 0, api.ErrArg},
		"one of the goods more":      {list(10, 5), lists(list(10, 5, 0), list(0, 0)), 0, api.ErrArg},
		"none of the goods":          {list(10, 5), lists(list(10, 5), nil), 0, api.ErrArg},
		"none of them at first":      {list(10, 2), lists(nil, list(10, 2)), 0, api.ErrArg},
		"far":                        {list(10, 5), lists(list(far, 5), list(far, 0)), 0, api.ErrArg},
		"far below":                  {list(10, 5), lists(list(10, -far-1), list(0, 0)), 0, api.ErrArg},
		"more of them than there is": {list(400, 0), lists(list(10, 0), list(10, 0)), 0, api.ErrArg},
	} {
		got, e := order.Costs(sellersL(), x.wants, x.plan)
		wantError(t, name, e, x.e, got)
		if got != x.want {
			t.Errorf("%s: %d, want %d", name, got, x.want)
		}
	}
	// a parcel is paid also if the pieces in it cost nothing
	given := changedSellers(func(l []api.OrderSeller) { l[1].Price = list(0, 0) })
	if got, e := order.Costs(given, list(0, 1), lists(list(0, 0), list(0, 1))); e != api.OK || got != 5 {
		t.Errorf("%d, error %d, for a parcel", got, e)
	}
}

// P9.6: Buy of the chapter's sellers, and of others.
func TestBuyOfL(t *testing.T) {
	alike := func(parcel int) []api.OrderSeller {
		return changedSellers(func(l []api.OrderSeller) {
			l[0].Parcel, l[1].Parcel, l[0].Price = parcel, parcel, list(4, 5)
		})
	}
	full := api.OrderSeller{Parcel: 1000, Stock: slices.Repeat(list(100), 5), Price: slices.Repeat(list(1000), 5)}
	given := func(parcel int) api.OrderSeller {
		return api.OrderSeller{Parcel: parcel, Stock: list(5), Price: list(0)}
	}
	dear := func(parcel, stock, price int) api.OrderSeller {
		return api.OrderSeller{Parcel: parcel, Stock: list(stock), Price: list(price)}
	}
	for name, x := range map[string]struct {
		l     []api.OrderSeller
		wants []int
		want  [][]int
		costs int
		e     api.Errno
	}{
		"10 and 5":                    {sellersL(), list(10, 5), lists(list(10, 5), list(0, 0)), 70, api.OK},
		"10 and 2":                    {sellersL(), list(10, 2), lists(list(0, 0), list(10, 2)), 55, api.OK},
		"all":                         {sellersL(), list(20, 7), lists(list(10, 5), list(10, 2)), 125, api.OK},
		"nothing":                     {sellersL(), list(0, 0), lists(list(0, 0), list(0, 0)), 0, api.OK},
		"more than there is":          {sellersL(), list(21, 0), nil, 0, api.ErrNone},
		"of the other":                {sellersL(), list(0, 8), nil, 0, api.ErrNone},
		"the most":                    {sellersL(), list(400, 400), nil, 0, api.ErrNone},
		"equal ones, the last":        {alike(5), list(10, 2), lists(list(0, 0), list(10, 2)), 55, api.OK},
		"equal ones, both":            {alike(0), list(12, 0), lists(list(2, 0), list(10, 0)), 48, api.OK},
		"equal ones, one":             {alike(0), list(10, 3), lists(list(10, 3), list(0, 0)), 55, api.OK},
		"equal ones, both of all":     {alike(0), list(11, 4), lists(list(1, 2), list(10, 2)), 64, api.OK},
		"all there can be":            {slices.Repeat([]api.OrderSeller{full}, 4), slices.Repeat(list(400), 5), slices.Repeat(lists(slices.Repeat(list(100), 5)), 4), 2004000, api.OK},
		"one more":                    {slices.Repeat([]api.OrderSeller{full}, 3), list(0, 0, 301, 0, 0), nil, 0, api.ErrNone},
		"for nothing":                 {[]api.OrderSeller{given(0), given(0), given(0)}, list(5), lists(list(0), list(0), list(5)), 0, api.OK},
		"for nothing, two of three":   {[]api.OrderSeller{given(0), given(0), given(0)}, list(7), lists(list(0), list(2), list(5)), 0, api.OK},
		"for a parcel":                {[]api.OrderSeller{given(3), given(2), given(2), given(3)}, list(6), lists(list(0), list(1), list(5), list(0)), 4, api.OK},
		"one dear one, or two":        {[]api.OrderSeller{dear(0, 3, 1), dear(0, 3, 1), dear(0, 6, 2)}, list(6), lists(list(3), list(3), list(0)), 6, api.OK},
		"one with a parcel, or two":   {[]api.OrderSeller{dear(0, 3, 2), dear(0, 3, 2), dear(6, 6, 1)}, list(6), lists(list(0), list(0), list(6)), 12, api.OK},
		"fewer, though later":         {[]api.OrderSeller{dear(0, 6, 2), dear(0, 3, 2), dear(0, 3, 2)}, list(6), lists(list(6), list(0), list(0)), 12, api.OK},
		"dear pieces, a cheap parcel": {[]api.OrderSeller{dear(10, 9, 1), dear(1, 9, 3)}, list(4), lists(list(0), list(4)), 13, api.OK},
		"a dear parcel, many pieces":  {[]api.OrderSeller{dear(10, 9, 1), dear(1, 9, 3)}, list(5), lists(list(5), list(0)), 15, api.OK},
		"as dear: the later one":      {[]api.OrderSeller{dear(9, 9, 1), dear(1, 9, 3)}, list(4), lists(list(0), list(4)), 13, api.OK},
		"a parcel is paid already":    {[]api.OrderSeller{dear(10, 3, 1), dear(1, 9, 3)}, list(9), lists(list(0), list(9)), 28, api.OK},
		"or both of them":             {[]api.OrderSeller{dear(5, 3, 1), dear(1, 9, 3)}, list(9), lists(list(3), list(6)), 27, api.OK},
		"each one what he has": {[]api.OrderSeller{{Stock: list(9, 0), Price: list(1, 1)}, {Stock: list(0, 9), Price: list(1, 1)}}, list(3, 4),
			lists(list(3, 0), list(0, 4)), 7, api.OK},
	} {
		got, costs, e := order.Buy(x.l, x.wants)
		wantError(t, name, e, x.e, got, costs)
		if !sameLists(got, x.want) || costs != x.costs {
			t.Errorf("%s: %v, %d, want %v, %d", name, got, costs, x.want, x.costs)
		}
	}
}

// P9.6: Costs and Buy have ErrArg for what is not as defined.
func TestBadMarkets(t *testing.T) {
	for name, change := range badMarkets() {
		l, wants := sellersL(), list(10, 5)
		change(&l, &wants)
		plan, costs, e := order.Buy(l, wants)
		wantError(t, name, e, api.ErrArg, plan, costs)
		var zero [][]int
		for range min(len(l), 10) {
			zero = append(zero, make([]int, len(wants)))
		}
		for _, plan := range [][][]int{nil, lists(list(10, 5), list(0, 0)), zero} {
			costs, e = order.Costs(l, wants, plan)
			wantError(t, name, e, api.ErrArg, costs)
		}
	}
}

// marketBy returns sellers and what is wanted by chance.
func marketBy(d *dice, sellers, goods, stock, price int) (l []api.OrderSeller, wants []int) {
	parcel := []int{0, 1, 3, 6}[d.upTo(3)] * price
	for range sellers {
		s := api.OrderSeller{Parcel: min(d.upTo(parcel), api.OrderPrice)}
		for range goods {
			s.Stock = append(s.Stock, d.upTo(stock))
			s.Price = append(s.Price, d.upTo(price))
		}
		l = append(l, s)
	}
	for good := range goods {
		all := 0
		for _, s := range l {
			all += s.Stock[good]
		}
		n := d.upTo(all)
		if d.upTo(19) == 0 {
			n = all + d.upTo(1)
		}
		wants = append(wants, n)
	}
	return l, wants
}

// stocks goes through all lists with at most the Stock of each of the goods for each seller, in lexicographic order.
func stocks(l []api.OrderSeller) iter.Seq[[][]int] {
	return func(yield func([][]int) bool) {
		goods := len(l[0].Stock)
		var plan [][]int
		for range l {
			plan = append(plan, make([]int, goods))
		}
		for yield(plan) {
			i := len(l)*goods - 1
			for i >= 0 && plan[i/goods][i%goods] == l[i/goods].Stock[i%goods] {
				plan[i/goods][i%goods] = 0
				i--
			}
			if i < 0 {
				return
			}
			plan[i/goods][i%goods]++
		}
	}
}

// isPurchase reports whether a list with at most the Stock sums to just what is wanted.
func isPurchase(wants []int, plan [][]int) bool {
	for good, n := range wants {
		for _, s := range plan {
			n -= s[good]
		}
		if n != 0 {
			return false
		}
	}
	return true
}

// paid returns what a list costs, and from how many sellers it is.
func paid(l []api.OrderSeller, plan [][]int) (costs, sellers int) {
	for i, s := range plan {
		for good, n := range s {
			costs += n * l[i].Price[good]
		}
		if slices.Max(s) > 0 {
			costs += l[i].Parcel
			sellers++
		}
	}
	return costs, sellers
}

func cloned(plan [][]int) [][]int {
	var other [][]int
	for _, s := range plan {
		other = append(other, slices.Clone(s))
	}
	return other
}

// P9.6: Costs and Buy return what the chapter defines, by trying all purchases.
func TestBuyByChance(t *testing.T) {
	d := dice(11)
	none, ties, fewer, asked := 0, 0, 0, 0
	for range 4000 {
		kind := [][3]int{{1, 2, 3}, {2, 1, 9}, {2, 2, 4}, {3, 2, 2}, {2, 5, 1}, {4, 2, 1}, {4, 1, 5}, {3, 3, 1}}[d.upTo(7)]
		l, wants := marketBy(&d, kind[0], kind[1], kind[2], d.upTo(3))
		var best [][]int
		least, fewest := 0, 0
		for plan := range stocks(l) {
			is := isPurchase(wants, plan)
			costs, sellers := paid(l, plan)
			if is || d.upTo(99) == 0 {
				asked++
				want := api.OK
				if !is {
					want, costs = api.ErrArg, 0
				}
				if got, e := order.Costs(l, wants, plan); e != want || got != costs {
					t.Fatalf("%v, %v, %v: %d, error %d, want %d, error %d", l, wants, plan, got, e, costs, want)
				}
			}
			if !is {
				continue
			}
			if best != nil && costs == least && sellers == fewest {
				ties++
			}
			if best != nil && costs == least && sellers < fewest {
				fewer++
			}
			if best == nil || costs < least || costs == least && sellers < fewest {
				best, least, fewest = cloned(plan), costs, sellers
			}
		}
		want := api.OK
		if best == nil {
			want = api.ErrNone
			none++
		}
		got, costs, e := order.Buy(l, wants)
		if e != want || costs != least || !sameLists(got, best) {
			t.Fatalf("%v, %v: %v, %d, error %d, want %v, %d, error %d", l, wants, got, costs, e, best, least, want)
		}
	}
	if none < 50 || ties < 500 || fewer < 50 || asked < 10000 {
		t.Errorf("none %d times, %d are as good, and later, %d from fewer sellers, and later, %d were asked", none, ties, fewer, asked)
	}
}

// P9.6 and P0.9: no purchase that somebody proposes costs less, of many sellers with much of all goods.
func TestBuyWhateverIsProposed(t *testing.T) {
	d := dice(12)
	proposed := 0
	for range 400 {
		l, wants := marketBy(&d, d.from(2, 4), d.from(1, 5), 100, []int{2, 20, 166}[d.upTo(2)])
		got, costs, e := order.Buy(l, wants)
		if e == api.ErrNone {
			continue
		}
		if again, f := order.Costs(l, wants, got); e != api.OK || f != api.OK || again != costs {
			t.Fatalf("%v, %v: %v, %d, but %d, errors %d, %d", l, wants, got, costs, again, e, f)
		}
		_, sellers := paid(l, got)
		for range 200 {
			plan := moved(&d, l, got)
			other, e := order.Costs(l, wants, plan)
			if e != api.OK {
				t.Fatalf("%v, %v, %v: error %d", l, wants, plan, e)
			}
			_, others := paid(l, plan)
			later := slices.CompareFunc(got, plan, slices.Compare[[]int]) <= 0
			if other < costs || other == costs && (others < sellers || others == sellers && !later) {
				t.Fatalf("%v, %v: %v, %d, but %v, %d", l, wants, got, costs, plan, other)
			}
			if !sameLists(plan, got) {
				proposed++
			}
		}
	}
	if proposed < 20000 {
		t.Errorf("%d were proposed", proposed)
	}
}

// moved returns a purchase in which some pieces are bought of other sellers.
func moved(d *dice, l []api.OrderSeller, plan [][]int) [][]int {
	plan = cloned(plan)
	some, other := d.upTo(len(l)-1), d.upTo(len(l)-1)
	all := d.upTo(1) == 0
	for good := range plan[0] {
		n := min(plan[some][good], l[other].Stock[good]-plan[other][good])
		if !all {
			n = d.upTo(1) * min(n, d.from(1, 9))
		}
		plan[some][good] -= n
		plan[other][good] += n
	}
	return plan
}
