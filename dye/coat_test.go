package dye_test

import (
	"math/bits"
	"slices"
	"testing"

	"nacre/api"
	"nacre/dye"
)

// needing returns the coat of the chapter with another Need and Eye.
func needing(need int, eye api.Span) api.DyeCoat {
	c := coatC()
	c.Need, c.Eye = need, eye
	return c
}

// P4.6: Suits of the chapter's coat.
func TestSuitsOfC(t *testing.T) {
	for name, x := range map[string]struct {
		c    api.DyeCoat
		want [8]bool
	}{
		"a Need of 3": {needing(3, only(6)), [8]bool{2: true, 3: true, 5: true, 6: true, 7: true}},
		"a Need of 1": {needing(1, only(6)), [8]bool{1: true, 2: true, 3: true, 4: true, 5: true, 6: true, 7: true}},
		"a Need of 5": {needing(5, only(6)), [8]bool{3: true, 6: true, 7: true}},
		"a Need of 7": {needing(7, only(6)), [8]bool{7: true}},
		"a Need of 8": {needing(8, only(6)), [8]bool{}},
		// from old ones, the stock 1 differs by up to 4, the others by up to 5
		"an eye from 4": {needing(3, span(4, 8)), [8]bool{2: true}},
		"an eye from 5": {needing(3, span(5, 8)), [8]bool{2: true, 3: true, 5: true, 6: true, 7: true}},
		"an eye from 3": {needing(3, span(3, 7)), [8]bool{}},
	} {
		for set, want := range x.want {
			if is, e := dye.Suits(houseH(), x.c, stocksC(), set); e != api.OK || is != want {
				t.Errorf("%s, the set %d: %v, error %d", name, set, is, e)
			}
		}
	}
	for _, set := range []int{-1, 8, 9, 1 << 40, -1 << 63, 1<<63 - 1} {
		is, e := dye.Suits(houseH(), coatC(), stocksC(), set)
		wantError(t, "a set", e, api.ErrArg, is)
	}
}

// P4.6: Coat of the chapter's coat.
func TestCoatOfC(t *testing.T) {
	for name, x := range map[string]struct {
		c    api.DyeCoat
		l    []api.DyeStock
		want int
		e    api.Errno
	}{
		"a Need of 1":       {needing(1, only(6)), stocksC(), 4, api.OK},
		"a Need of 2":       {needing(2, only(6)), stocksC(), 4, api.OK},
		"a Need of 3":       {needing(3, only(6)), stocksC(), 2, api.OK},
		"a Need of 4":       {needing(4, only(6)), stocksC(), 5, api.OK},
		"a Need of 5":       {needing(5, only(6)), stocksC(), 6, api.OK},
		"a Need of 7":       {needing(7, only(6)), stocksC(), 7, api.OK},
		"a Need of 8":       {needing(8, only(6)), stocksC(), 0, api.ErrNone},
		"an eye from 4":     {needing(3, span(4, 8)), stocksC(), 2, api.OK},
		"for 4 buttons":     {needing(4, span(4, 8)), stocksC(), 0, api.ErrNone},
		"an eye of 3":       {needing(3, only(3)), stocksC(), 0, api.ErrNone},
		"a stock of none":   {coatC(), []api.DyeStock{stock(batchB(), 0, 0)}, 0, api.ErrNone},
		"one of two stocks": {coatC(), []api.DyeStock{stock(batchB(), 3, 7), stock(batchB(), 99, 7)}, 1, api.OK},
		"the cheaper one":   {coatC(), []api.DyeStock{stock(batchB(), 3, 7), stock(batchB(), 3, 6)}, 2, api.OK},
		// fewer stocks come before a lesser price
		"the dear one": {coatC(), []api.DyeStock{stock(batchB(), 2, 0), stock(batchB(), 2, 0), stock(batchB(), 3, 999)}, 4, api.OK},
		"5 stocks":     {needing(300, only(6)), slices.Repeat([]api.DyeStock{stock(batchB(), 60, 1)}, 5), 31, api.OK},
		"4 of 5":       {needing(240, only(6)), slices.Repeat([]api.DyeStock{stock(batchB(), 60, 1)}, 5), 15, api.OK},
	} {
		set, e := dye.Coat(houseH(), x.c, x.l)
		wantError(t, name, e, x.e, set)
		if set != x.want {
			t.Errorf("%s: %d, want %d", name, set, x.want)
		}
	}
}

// P4.6: stocks that look like old buttons, but not like each other, do not suit together; the takes that both share count.
func TestStocksApart(t *testing.T) {
	mid := coatC()
	mid.Old = []api.Span{only(10), only(10)}
	apart := []api.DyeStock{stock(baths{bath(0, 1, 1, 1)}, 2, 0), stock(baths{bath(0, 1, 3, 3)}, 2, 0)}
	set, e := dye.Coat(houseH(), mid, apart)
	wantError(t, "apart", e, api.ErrNone, set)
	mid.Need = 2
	if set, e := dye.Coat(houseH(), mid, apart); e != api.OK || set != 1 {
		t.Errorf("%d, error %d", set, e)
	}
	// 6 hours of 2 to 3 look 12 to 18, and 7 look 14 to 21; since the dye takes the same, they differ by 2 or 3 only
	h := houseOf(dyeOf(100, span(2, 3), only(0), only(0)))
	c := api.DyeCoat{Lamps: []api.DyeLamp{lamp(1)}, Eye: only(5), Old: []api.Span{only(16)}, Need: 4}
	l := []api.DyeStock{stock(baths{bath(0, 0, 6, 6)}, 2, 0), stock(baths{bath(0, 0, 7, 7)}, 2, 0)}
	if set, e := dye.Coat(h, c, l); e != api.OK || set != 3 {
		t.Errorf("%d, error %d", set, e)
	}
	// two of one batch look as its hours were, but the hours of two batches are each one's own
	c.Eye, c.Old, c.Lamps = only(3), []api.Span{only(16)}, []api.DyeLamp{lamp(2)}
	h = houseOf(dyeOf(100, only(2), only(0), only(0)))
	l = slices.Repeat([]api.DyeStock{stock(baths{bath(0, 0, 4, 4)}, 2, 0)}, 2)
	if set, e := dye.Coat(h, c, l); e != api.OK || set != 3 {
		t.Errorf("%d, error %d", set, e)
	}
	c.Eye, c.Old = only(4), []api.Span{only(18)}
	l = slices.Repeat([]api.DyeStock{stock(baths{bath(0, 0, 4, 5)}, 2, 0)}, 2)
	if set, e := dye.Coat(h, c, l); e != api.OK || set != 3 {
		t.Errorf("%d, error %d", set, e)
	}
	c.Eye = only(3)
	set, e = dye.Coat(h, c, l)
	wantError(t, "hours of their own", e, api.ErrNone, set)
}

// suits reports whether a set suits a coat, by trying all truths.
func suits(h api.DyeHouse, c api.DyeCoat, l []api.DyeStock, set int) bool {
	many := 0
	for i, s := range l {
		if set>>i&1 == 0 {
			continue
		}
		many += s.Many
		for k, x := range c.Lamps {
			for _, w := range worlds(h, s.Baths) {
				look := w.look(h, x, s.Baths, 0)
				if size(look-c.Old[k].Low) > c.Eye.Low || size(look-c.Old[k].High) > c.Eye.Low {
					return false
				}
			}
			for j := range i {
				if set>>j&1 == 1 && wordFor(worlds(h, s.Baths, l[j].Baths), h, x, s.Baths, l[j].Baths, c.Eye) != surely {
					return false
				}
			}
		}
	}
	return many >= c.Need
}

// pricesOf returns the sum of the prices of a set.
func pricesOf(l []api.DyeStock, set int) int {
	total := 0
	for i, s := range l {
		total += s.Price * (set >> i & 1)
	}
	return total
}

// bestOf returns the best one of the sets that suit; 0 if there is none.
func bestOf(l []api.DyeStock, suit func(set int) bool) int {
	first := 0
	for set := 1; set < 1<<len(l); set++ {
		if !suit(set) {
			continue
		}
		fewer := bits.OnesCount(uint(set)) - bits.OnesCount(uint(first))
		if first == 0 || fewer < 0 || fewer == 0 && pricesOf(l, set) < pricesOf(l, first) {
			first = set
		}
	}
	return first
}

// coatBy returns a coat and stocks by chance, that often look like its old buttons, of a house of which at most so many numbers are not known.
func coatBy(d *dice, h api.DyeHouse, open int) (api.DyeCoat, []api.DyeStock) {
	c := api.DyeCoat{Lamps: lampsBy(d, h)[:1], Eye: d.span(0, 150, api.DyeVary)}
	if d.upTo(2) == 0 {
		c.Lamps = append(c.Lamps, lampBy(d, h))
	}
	first := batchBy(d, h, 0, open)
	total := 0
	var l []api.DyeStock
	for range d.from(1, api.DyeStocks) {
		s := stock(slices.Clone(first), d.upTo(60), d.upTo(3))
		if i := len(s.Baths) - 1; i >= 0 && d.upTo(1) == 0 {
			s.Baths[i].Hours = only(min(api.DyeHours, s.Baths[i].Hours.Low+d.upTo(2)))
		} else if i >= 0 && d.upTo(3) == 0 {
			s.Baths[i].Temper = d.upTo(2)
		}
		l = append(l, s)
		total += s.Many
	}
	c.Need = d.from(1, max(1, total*9/10))
	for _, x := range c.Lamps {
		w := worldBy(d, h, first)
		old := w.look(h, x, first, 0)
		c.Old = append(c.Old, span(old-d.upTo(6), old+d.upTo(6)))
	}
	return c, l
}

// P4.6: Suits and Coat return what all truths give, of small houses; and the best set is the first one of all that suit.
func TestCoats(t *testing.T) {
	d := dice(10)
	size, none := [6]int{}, 0
	for range 150 {
		h := houseBy(&d, 3)
		c, l := coatBy(&d, h, 2)
		suit := make([]bool, 1<<len(l))
		for set := range suit {
			suit[set] = suits(h, c, l, set)
			if is, e := dye.Suits(h, c, l, set); e != api.OK || is != suit[set] {
				t.Fatalf("%v, %v, %v: the set %d suits %v, error %d, want %v", h, c, l, set, is, e, suit[set])
			}
		}
		want := bestOf(l, func(set int) bool { return suit[set] })
		got, e := dye.Coat(h, c, l)
		if want == 0 {
			wantError(t, "none", e, api.ErrNone, got)
			none++
		} else if e != api.OK || got != want {
			t.Fatalf("%v, %v, %v: %d, error %d, want %d", h, c, l, got, e, want)
		}
		size[bits.OnesCount(uint(want))]++
	}
	if none < 10 || size[1] < 10 || size[2] < 10 || size[3] < 5 {
		t.Errorf("%d without a set, %v by their sizes", none, size)
	}
}

// P4.6 and P0.4: whatever is true, buttons of a set that suits look like old ones and like each other, and no set is better, of large houses too.
func TestCoatsOfTruths(t *testing.T) {
	d := dice(11)
	some := 0
	for range 300 {
		h := houseBy(&d, 99)
		c, l := coatBy(&d, h, 99)
		set, e := dye.Coat(h, c, l)
		want := bestOf(l, func(set int) bool {
			is, e := dye.Suits(h, c, l, set)
			return e == api.OK && is
		})
		if set != want || (e == api.OK) != (want > 0) {
			t.Fatalf("%v, %v, %v: %d, error %d, want %d", h, c, l, set, e, want)
		}
		if e != api.OK {
			continue
		}
		some++
		many := 0
		for i, s := range l {
			if set>>i&1 == 0 {
				continue
			}
			many += s.Many
			for k, x := range c.Lamps {
				w := worldBy(&d, h, s.Baths, l[0].Baths)
				eye := d.in(c.Eye)
				if size(w.look(h, x, s.Baths, 0)-d.in(c.Old[k])) > eye || set&1 == 1 && i > 0 && size(w.apart(h, x, s.Baths, l[0].Baths)) > eye {
					t.Fatalf("%v, %v, %v: the set %d is not alike in %v", h, c, l, set, w)
				}
			}
		}
		if many < c.Need {
			t.Fatalf("%v, %v: the set %d has %d buttons", c, l, set, many)
		}
	}
	if some < 50 {
		t.Error(some)
	}
}

// wantBadCoat fails unless Suits and Coat have ErrArg.
func wantBadCoat(t *testing.T, name string, h api.DyeHouse, c api.DyeCoat, l []api.DyeStock) {
	t.Helper()
	for _, set := range []int{0, 1} {
		is, e := dye.Suits(h, c, l, set)
		wantError(t, name+", Suits", e, api.ErrArg, is)
	}
	set, e := dye.Coat(h, c, l)
	wantError(t, name+", Coat", e, api.ErrArg, set)
}

// P4.6: ErrArg for houses and coats that are not as defined.
func TestBadCoats(t *testing.T) {
	for name, h := range badHouses() {
		c := coatC()
		c.Lamps = slices.Repeat([]api.DyeLamp{{Weights: make([]int, len(h.Dyes))}}, 2)
		wantBadCoat(t, name, h, c, []api.DyeStock{stock(nil, 9, 0)})
	}
	for name, x := range badLamps() {
		c := coatC()
		c.Lamps[1] = x
		wantBadCoat(t, name, houseH(), c, stocksC())
	}
	for _, eye := range badEyes() {
		wantBadCoat(t, "an eye", houseH(), needing(3, eye), stocksC())
	}
	for name, change := range map[string]func(*api.DyeCoat){
		"no lamps":              func(c *api.DyeCoat) { c.Lamps = nil },
		"no lamps and none old": func(c *api.DyeCoat) { c.Lamps, c.Old = nil, nil },
		"4 lamps":               func(c *api.DyeCoat) { c.Lamps, c.Old = slices.Repeat(c.Lamps, 2), slices.Repeat(c.Old, 2) },
		"many lamps":            func(c *api.DyeCoat) { c.Lamps = slices.Repeat(c.Lamps, 500000) },
		"an Old less":           func(c *api.DyeCoat) { c.Old = c.Old[:1] },
		"an Old more":           func(c *api.DyeCoat) { c.Old = append(c.Old, only(0)) },
		"no Old":                func(c *api.DyeCoat) { c.Old = nil },
		"an Old to 3001":        func(c *api.DyeCoat) { c.Old[0] = span(0, 3001) },
		"an Old from -3001":     func(c *api.DyeCoat) { c.Old[1] = span(-3001, 0) },
		"an Old turned":         func(c *api.DyeCoat) { c.Old[1] = span(12, 10) },
		"a Need of 0":           func(c *api.DyeCoat) { c.Need = 0 },
		"a Need of -1":          func(c *api.DyeCoat) { c.Need = -1 },
		"a Need of 301":         func(c *api.DyeCoat) { c.Need = 301 },
	} {
		c := coatC()
		change(&c)
		wantBadCoat(t, name, houseH(), c, stocksC())
	}
}

// badStocks returns stocks of the house h that are not as defined.
func badStocks() map[string][]api.DyeStock {
	bad := map[string][]api.DyeStock{
		"6 stocks":        slices.Repeat(stocksC(), 2),
		"many stocks":     slices.Repeat(stocksC(), 500000),
		"a Many of 100":   {stock(batchB(), 100, 0)},
		"a Many of -1":    {stock(batchB(), -1, 0)},
		"a Price of 1000": {stock(batchB(), 0, 1000)},
		"a Price of -1":   {stock(batchB(), 0, -1)},
		"a second one":    {stock(batchB(), 5, 5), stock(batchB(), 5, 1000)},
	}
	for name, l := range badBatches() {
		bad[name] = []api.DyeStock{stock(batchB(), 5, 5), stock(l, 5, 5)}
	}
	return bad
}

// P4.6: ErrArg for stocks that are not as defined, and for none.
func TestBadStocks(t *testing.T) {
	wantBadCoat(t, "no stocks", houseH(), coatC(), nil)
	for name, l := range badStocks() {
		wantBadCoat(t, name, houseH(), coatC(), l)
	}
	// what is at its limit is not beyond it
	c := api.DyeCoat{Lamps: []api.DyeLamp{day()}, Eye: span(196, 200), Old: []api.Span{span(-3000, 3000)}, Need: 300}
	l := slices.Repeat([]api.DyeStock{stock(batchB(), 99, 999)}, 5)
	if is, e := dye.Suits(houseH(), c, l, 31); e != api.OK || is {
		t.Errorf("old ones that look like all: %v, error %d", is, e)
	}
	c.Old[0] = span(-181, 206)
	if set, e := dye.Coat(houseH(), c, l); e != api.OK || set != 15 {
		t.Errorf("old ones that look like many: %d, error %d", set, e)
	}
	c.Old[0].High++
	set, e := dye.Coat(houseH(), c, l)
	wantError(t, "one more", e, api.ErrNone, set)
}
