package card_test

import (
	"slices"
	"testing"

	"nacre/api"
	"nacre/card"
)

// keptBy returns what was kept by chance for some houses.
func keptBy(d *dice, houses int) []int {
	var kept []int
	for range houses {
		kept = append(kept, d.upTo(api.CardGross-1))
	}
	return kept
}

// P6.4: Due of the chapter's round, and of rounds near it.
func TestDueOfR(t *testing.T) {
	for name, x := range map[string]struct {
		r    api.CardRound
		rate int
		kept []int
		want []api.Span
	}{
		"the example":     {roundR(), 10, []int{89, 99}, []api.Span{span(0, 10), span(0, 10)}},
		"surely, never":   {roundR(), 10, []int{90, 97}, []api.Span{only(10), only(0)}},
		"never, surely":   {roundR(), 10, []int{87, 100}, []api.Span{only(0), only(10)}},
		"the edges":       {roundR(), 1000, []int{88, 98}, []api.Span{span(0, 1000), span(0, 1000)}},
		"nothing is kept": {roundR(), 10, []int{0, 0}, []api.Span{only(0), only(0)}},
		"all is kept":     {roundR(), 10, []int{143, 143}, []api.Span{only(10), only(10)}},
		"a rate of 0":     {roundR(), 0, []int{89, 143}, []api.Span{only(0), only(0)}},
		"the least":       {bareRound(), 10, []int{143}, []api.Span{only(0)}},
	} {
		if got, e := card.Due(x.r, x.rate, x.kept); e != api.OK || !slices.Equal(got, x.want) {
			t.Errorf("%s: %v, error %d", name, got, e)
		}
	}
}

// P6.4: Due has ErrArg for what is not as defined, before ErrRule for a round that does not agree.
func TestDueOfOthers(t *testing.T) {
	for name, r := range badRounds() {
		got, e := card.Due(r, 10, make([]int, len(r.Houses)))
		wantError(t, name, e, api.ErrArg, got)
	}
	for _, r := range []api.CardRound{roundR(), roundQ()} {
		for name, x := range map[string]struct {
			rate int
			kept []int
		}{
			"a rate of -1":      {-1, []int{0, 0}},
			"a rate of 1001":    {1001, []int{0, 0}},
			"a rate far above":  {far, []int{0, 0}},
			"nothing kept":      {10, nil},
			"kept for one":      {10, []int{0}},
			"kept for three":    {10, []int{0, 0, 0}},
			"kept for many":     {10, make([]int, 100000)},
			"144 kept":          {10, []int{0, 144}},
			"-1 kept":           {10, []int{-1, 0}},
			"kept far above":    {10, []int{far, 0}},
			"kept far below":    {10, []int{0, -far - 1}},
			"a rate and a kept": {1001, []int{144}},
		} {
			got, e := card.Due(r, x.rate, x.kept)
			wantError(t, name, e, api.ErrArg, got)
		}
	}
	got, e := card.Due(roundQ(), 10, []int{0, 0})
	wantError(t, "q", e, api.ErrRule, got)
}

// P6.4: Due returns the least and the greatest that is paid, over all truths.
func TestDueOfTruths(t *testing.T) {
	d := dice(6)
	apart := 0
	for range 1000 {
		r, _ := roundBy(&d, small())
		rate, kept := d.upTo(api.CardRate), keptBy(&d, len(r.Houses))
		if d.upTo(1) == 0 {
			// near a gross that is just reached, or not
			k := tried(r, nobody)
			for house, s := range k.known() {
				kept[house] = min(api.CardGross-1, api.CardGross-d.from(s.Low, s.High))
			}
		}
		due := make([]ends, len(r.Houses))
		for _, x := range truths(r, nobody) {
			for house := range r.Houses {
				coins := 0
				for n := kept[house] + buttonsOf(r, x, house); n >= api.CardGross; n -= api.CardGross {
					coins += rate
				}
				due[house].add(coins)
			}
		}
		got, e := card.Due(r, rate, kept)
		if e != api.OK || len(got) != len(due) {
			t.Fatalf("%v: %v, error %d", r, got, e)
		}
		for house, s := range due {
			if got[house] != s.Span {
				t.Fatalf("%v, %v: %v, want %v", r, kept, got, due)
			}
			if s.Low < s.High {
				apart++
			}
		}
	}
	if apart < 50 {
		t.Errorf("%d houses are paid more or less", apart)
	}
}

// P6.4 and P0.6: what a house is paid in a round lies within what is due, for large rounds too.
func TestDueOfAnyTruth(t *testing.T) {
	d := dice(7)
	for range 1000 {
		r, x := roundBy(&d, large())
		rate, kept := d.upTo(api.CardRate), keptBy(&d, len(r.Houses))
		due, e := card.Due(r, rate, kept)
		if e != api.OK {
			t.Fatal(r, e)
		}
		for house, s := range due {
			paid, _, e := card.Pay(rate, kept[house], []int{buttonsOf(r, x, house)})
			if e != api.OK || paid[0] < s.Low || paid[0] > s.High {
				t.Fatalf("%v, %v: the house %d is paid %v, due is %v, error %d", r, x, house, paid, s, e)
			}
		}
	}
}

// P6.4: Pay of the chapter's example, and of its edges.
func TestPayOfExamples(t *testing.T) {
	for name, x := range map[string]struct {
		rate, kept int
		l, want    []int
		left       int
	}{
		"the example":   {10, 100, []int{50, 94, 50}, []int{10, 0, 10}, 6},
		"no rounds":     {10, 0, nil, nil, 0},
		"only kept":     {10, 143, []int{}, nil, 143},
		"one more":      {10, 143, []int{1}, []int{10}, 0},
		"one less":      {10, 142, []int{1}, []int{0}, 143},
		"two grosses":   {10, 0, []int{288}, []int{20}, 0},
		"some at once":  {7, 143, []int{1, 144, 3000}, []int{7, 7, 140}, 120},
		"a rate of 0":   {0, 5, []int{288, 1}, []int{0, 0}, 6},
		"the most":      {1000, 143, []int{3000}, []int{21000}, 119},
		"empty rounds":  {10, 143, []int{0, 0}, []int{0, 0}, 143},
		"all 12 rounds": {1, 0, slices.Repeat([]int{72}, 12), []int{0, 1, 0, 1, 0, 1, 0, 1, 0, 1, 0, 1}, 0},
	} {
		if got, left, e := card.Pay(x.rate, x.kept, x.l); e != api.OK || left != x.left || !slices.Equal(got, x.want) {
			t.Errorf("%s: %v, %d, error %d", name, got, left, e)
		}
	}
	for name, x := range map[string]struct {
		rate, kept int
		l          []int
	}{
		"a rate of -1":      {-1, 0, nil},
		"a rate of 1001":    {1001, 0, nil},
		"-1 kept":           {1, -1, nil},
		"144 kept":          {1, 144, nil},
		"far too many kept": {1, far, []int{1}},
		"3001 buttons":      {1, 0, []int{0, 3001}},
		"-1 buttons":        {1, 0, []int{0, -1}},
		"far too many":      {1, 143, []int{far}},
		"far too few":       {1, 0, []int{-far - 1}},
		"13 rounds":         {1, 0, make([]int, 13)},
		"many rounds":       {1, 0, make([]int, 1000000)},
		"all of it":         {-1, -1, slices.Repeat([]int{-1}, 13)},
	} {
		got, left, e := card.Pay(x.rate, x.kept, x.l)
		wantError(t, name, e, api.ErrArg, got, left)
	}
}

// P6.4 and P0.6: a house is paid for each gross that it brought, and no more; each button is paid for, or kept, however they were parted.
func TestPayOfParts(t *testing.T) {
	d := dice(8)
	for range 2000 {
		rate, kept := d.from(1, api.CardRate), d.upTo(api.CardGross-1)
		var l []int
		all := kept
		for range d.upTo(api.CardRounds) {
			n := d.upTo([]int{20, 150, api.CardOut}[d.upTo(2)])
			l = append(l, n)
			all += n
		}
		for range 3 {
			paid, left, e := card.Pay(rate, kept, l)
			if e != api.OK || len(paid) != len(l) {
				t.Fatalf("%v: %v, error %d", l, paid, e)
			}
			coins, brought := 0, kept
			for i, n := range paid {
				coins += n
				brought += l[i]
				if coins != brought/api.CardGross*rate {
					t.Fatalf("%d, %d, %v: %v: after the round %d", rate, kept, l, paid, i)
				}
			}
			if coins%rate != 0 || coins/rate*api.CardGross+left != all || left < 0 || left >= api.CardGross {
				t.Fatalf("%d, %d, %v: %v, %d left", rate, kept, l, paid, left)
			}
			if len(l) < 2 {
				break
			}
			// the same buttons in another order, or parted in another way
			i, j := d.upTo(len(l)-1), d.upTo(len(l)-1)
			l[i], l[j] = l[j], l[i]
			if n := d.upTo(min(l[i], api.CardOut-l[j])); i != j {
				l[i], l[j] = l[i]-n, l[j]+n
			}
		}
	}
}
