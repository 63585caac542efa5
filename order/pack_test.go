package order_test

import (
	"iter"
	"slices"
	"testing"

	"nacre/api"
	"nacre/order"
)

func pack(holds, price int) api.OrderPack { return api.OrderPack{Holds: holds, Price: price} }

// packsP returns the packs p of the chapter.
func packsP() []api.OrderPack { return []api.OrderPack{pack(144, 100), pack(12, 10), pack(1, 1)} }

// badPacks returns packs that are not as defined.
func badPacks() map[string][]api.OrderPack {
	bad := map[string][]api.OrderPack{
		"no packs":        nil,
		"5 packs":         slices.Repeat(packsP()[:1], 5),
		"many packs":      slices.Repeat(packsP(), 100000),
		"5, and a bad":    append(slices.Repeat(packsP()[:1], 4), pack(0, 1)),
		"a bad one alone": {pack(0, 1)},
	}
	for name, p := range map[string]api.OrderPack{
		"Holds of 0":      pack(0, 1),
		"Holds of -1":     pack(-1, 1),
		"Holds of 145":    pack(145, 1),
		"Holds far":       pack(far, 1),
		"Holds far below": pack(-far-1, 1),
		"a Price of -1":   pack(1, -1),
		"a Price of 1001": pack(1, 1001),
		"a Price far":     pack(1, far),
		"far below":       pack(1, -far-1),
	} {
		bad[name+" last"] = append(packsP(), p)
		bad[name+" first"] = append([]api.OrderPack{p}, packsP()...)
	}
	return bad
}

// P9.5: Packs of the chapter's packs, and of others.
func TestPacksOfP(t *testing.T) {
	for name, x := range map[string]struct {
		l      []api.OrderPack
		pieces int
		want   []int
		price  int
	}{
		"none":                      {packsP(), 0, list(0, 0, 0), 0},
		"one":                       {packsP(), 1, list(0, 0, 1), 1},
		"nine":                      {packsP(), 9, list(0, 0, 9), 9},
		"ten are a dozen":           {packsP(), 10, list(0, 1, 0), 10},
		"a dozen":                   {packsP(), 12, list(0, 1, 0), 10},
		"13":                        {packsP(), 13, list(0, 1, 1), 11},
		"117":                       {packsP(), 117, list(0, 9, 9), 99},
		"118 are a gross":           {packsP(), 118, list(1, 0, 0), 100},
		"150":                       {packsP(), 150, list(1, 0, 6), 106},
		"155":                       {packsP(), 155, list(1, 1, 0), 110},
		"600":                       {packsP(), 600, list(4, 2, 0), 420},
		"one kind":                  {[]api.OrderPack{pack(7, 3)}, 600, list(86), 258},
		"one kind, to the last":     {[]api.OrderPack{pack(6, 3)}, 600, list(100), 300},
		"for nothing":               {[]api.OrderPack{pack(2, 0), pack(5, 0)}, 6, list(0, 2), 0},
		"for nothing, as few":       {[]api.OrderPack{pack(5, 0), pack(2, 0)}, 6, list(1, 1), 0},
		"cheapest, not fewest":      {[]api.OrderPack{pack(144, 1000), pack(1, 1)}, 600, list(0, 600), 600},
		"of equal ones the last":    {[]api.OrderPack{pack(3, 2), pack(3, 2)}, 6, list(0, 2), 4},
		"of three equal ones":       {[]api.OrderPack{pack(3, 2), pack(3, 2), pack(3, 2)}, 9, list(0, 0, 3), 6},
		"the least of the first":    {[]api.OrderPack{pack(4, 4), pack(2, 2), pack(6, 6)}, 8, list(0, 1, 1), 8},
		"fewer, though they differ": {[]api.OrderPack{pack(1, 1), pack(5, 5), pack(3, 3), pack(4, 4)}, 7, list(0, 0, 1, 1), 7},
		"one that holds too much":   {[]api.OrderPack{pack(144, 5), pack(1, 1)}, 6, list(1, 0), 5},
		"a dear small one":          {[]api.OrderPack{pack(1, 1000), pack(1, 1000)}, 600, list(0, 600), 600000},
		"four kinds":                {[]api.OrderPack{pack(10, 9), pack(25, 20), pack(60, 45), pack(144, 101)}, 333, list(2, 1, 0, 2), 240},
	} {
		got, price, e := order.Packs(x.l, x.pieces)
		if e != api.OK || !slices.Equal(got, x.want) || price != x.price {
			t.Errorf("%s: %v, %d, error %d, want %v, %d", name, got, price, e, x.want, x.price)
		}
	}
}

// P9.5: Packs has ErrArg for what is not as defined.
func TestBadPacks(t *testing.T) {
	for name, l := range badPacks() {
		for _, pieces := range list(0, 1, 600) {
			got, price, e := order.Packs(l, pieces)
			wantError(t, name, e, api.ErrArg, got, price)
		}
	}
	for _, pieces := range list(-1, 601, far, -far-1) {
		got, price, e := order.Packs(packsP(), pieces)
		wantError(t, "pieces", e, api.ErrArg, got, price)
	}
}

// taken goes through all lists of packs, with no more of any kind than are enough without others, in lexicographic order.
func taken(l []api.OrderPack, pieces int) iter.Seq[[]int] {
	return func(yield func([]int) bool) {
		n := make([]int, len(l))
		for yield(n) {
			i := len(l) - 1
			for i >= 0 && n[i]*l[i].Holds >= pieces {
				n[i] = 0
				i--
			}
			if i < 0 {
				return
			}
			n[i]++
		}
	}
}

// measured returns how many pieces packs hold, their price, and how many they are.
func measured(l []api.OrderPack, n []int) (holds, price, many int) {
	for i, p := range l {
		holds += n[i] * p.Holds
		price += n[i] * p.Price
		many += n[i]
	}
	return holds, price, many
}

// P9.5: Packs returns what the chapter defines, by trying all lists.
func TestPacksByChance(t *testing.T) {
	d := dice(9)
	ties := 0
	for range 4000 {
		var l []api.OrderPack
		pieces := d.upTo([]int{9, 20, 100, 600}[d.upTo(3)])
		lists := 1
		for range d.from(1, api.OrderPacks) {
			p := pack(d.from(1, api.OrderHolds), 0)
			if d.upTo(1) == 0 {
				p.Holds = d.from(1, min(pieces/2+1, api.OrderHolds))
			}
			p.Price = d.upTo(4)
			if d.upTo(1) == 0 {
				p.Price = p.Holds*d.from(1, 2) + d.upTo(1)
			}
			l = append(l, p)
			lists *= pieces/p.Holds + 2
		}
		if lists > 20000 {
			continue
		}
		var best []int
		least, fewest := 0, 0
		for n := range taken(l, pieces) {
			holds, price, many := measured(l, n)
			if holds < pieces {
				continue
			}
			if best != nil && price == least && many == fewest {
				ties++
			}
			if best == nil || price < least || price == least && many < fewest {
				best, least, fewest = slices.Clone(n), price, many
			}
		}
		got, price, e := order.Packs(l, pieces)
		if e != api.OK || !slices.Equal(got, best) || price != least {
			t.Fatalf("%v, %d: %v, %d, error %d, want %v, %d", l, pieces, got, price, e, best, least)
		}
	}
	if ties < 300 {
		t.Errorf("%d are as good, and later", ties)
	}
}

// P9.5: no packs that somebody proposes are cheaper, and hold enough.
func TestPacksWhateverIsProposed(t *testing.T) {
	d := dice(10)
	enough := 0
	for range 300 {
		var l []api.OrderPack
		for range d.from(1, api.OrderPacks) {
			holds := d.from(1, api.OrderHolds)
			l = append(l, pack(holds, min(holds*d.from(3, 6)+d.upTo(9), api.OrderPrice)))
		}
		pieces := d.upTo(api.OrderPieces)
		got, price, e := order.Packs(l, pieces)
		holds, sum, many := measured(l, got)
		if e != api.OK || holds < pieces || price != sum {
			t.Fatalf("%v, %d: %v, %d, error %d", l, pieces, got, price, e)
		}
		for range 300 {
			n := slices.Clone(got)
			for range d.from(1, 4) {
				i := d.upTo(len(n) - 1)
				n[i] = max(0, n[i]+d.from(-2, 2))
			}
			holds, other, more := measured(l, n)
			if holds < pieces {
				continue
			}
			enough++
			if other < price || other == price && (more < many || more == many && slices.Compare(n, got) < 0) {
				t.Fatalf("%v, %d: %v, %d, but %v is better", l, pieces, got, price, n)
			}
		}
	}
	if enough < 10000 {
		t.Errorf("%d hold enough", enough)
	}
}
