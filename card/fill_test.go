package card_test

import (
	"slices"
	"testing"

	"nacre/api"
	"nacre/card"
)

// kinds returns kinds of cards, for what they hold and how many there are, in turn.
func kinds(numbers ...int) []api.CardKind {
	var all []api.CardKind
	for pair := range slices.Chunk(numbers, 2) {
		all = append(all, api.CardKind{Holds: pair[0], Many: pair[1]})
	}
	return all
}

// P6.7: Fill of the chapter's examples, and of others.
func TestFillOfExamples(t *testing.T) {
	for name, x := range map[string]struct {
		kinds   []api.CardKind
		buttons int
		want    []int
		cards   int
	}{
		"the example":        {kinds(24, 2, 12, 3, 5, 4), 53, []int{2, 0, 1}, 3},
		"fewer large ones":   {kinds(24, 1, 12, 3, 5, 4), 53, []int{1, 2, 1}, 4},
		"no buttons":         {kinds(24, 2, 12, 3, 5, 4), 0, []int{0, 0, 0}, 0},
		"no cards":           {kinds(24, 0), 0, []int{0}, 0},
		"not the largest":    {kinds(6, 4, 4, 4, 1, 20), 8, []int{0, 2, 0}, 2},
		"the same kind":      {kinds(6, 4, 6, 4), 12, []int{0, 2}, 2},
		"not enough of it":   {kinds(6, 4, 6, 1), 12, []int{1, 1}, 2},
		"the first of equal": {kinds(5, 9, 3, 9, 1, 9), 6, []int{0, 2, 0}, 2},
		"all cards":          {kinds(36, 20, 35, 20, 34, 20, 33, 20), 2760, []int{20, 20, 20, 20}, 80},
		"just all of one":    {kinds(36, 20), 720, []int{20}, 20},
		"one card":           {kinds(1, 1), 1, []int{1}, 1},
		"one of many kinds":  {kinds(7, 20, 11, 20, 13, 20, 17, 20), 48, []int{0, 2, 2, 0}, 4},
	} {
		got, n, e := card.Fill(x.kinds, x.buttons)
		if e != api.OK || n != x.cards || !slices.Equal(got, x.want) {
			t.Errorf("%s: %v, %d, error %d", name, got, n, e)
		}
	}
}

// P6.7: Fill has ErrArg for what is not as defined, and ErrNone if there is no filling.
func TestFillOfOthers(t *testing.T) {
	for name, x := range map[string]struct {
		kinds   []api.CardKind
		buttons int
		want    api.Errno
	}{
		"the example":         {kinds(24, 2, 12, 3, 5, 4), 30, api.ErrNone},
		"one too many":        {kinds(36, 20), 721, api.ErrNone},
		"a card too many":     {kinds(36, 20), 756, api.ErrNone},
		"too few":             {kinds(36, 20), 35, api.ErrNone},
		"no cards":            {kinds(1, 0), 1, api.ErrNone},
		"more than there are": {kinds(36, 20, 36, 20, 36, 20, 36, 20), 3000, api.ErrNone},
		"no kinds":            {nil, 0, api.ErrArg},
		"5 kinds":             {kinds(1, 1, 1, 1, 1, 1, 1, 1, 1, 1), 0, api.ErrArg},
		"many kinds":          {slices.Repeat(kinds(1, 1), 1000000), 0, api.ErrArg},
		"holds 0":             {kinds(0, 1), 0, api.ErrArg},
		"holds -1":            {kinds(1, 1, -1, 1), 0, api.ErrArg},
		"holds 37":            {kinds(37, 1), 0, api.ErrArg},
		"holds far too many":  {kinds(far, 20), 0, api.ErrArg},
		"21 of them":          {kinds(1, 21), 0, api.ErrArg},
		"-1 of them":          {kinds(1, 1, 1, -1), 0, api.ErrArg},
		"far too many":        {kinds(1, far), 0, api.ErrArg},
		"3001 buttons":        {kinds(1, 1), 3001, api.ErrArg},
		"-1 buttons":          {kinds(1, 1), -1, api.ErrArg},
		"buttons far above":   {kinds(1, 1), far, api.ErrArg},
		"buttons far below":   {kinds(1, 1), -far - 1, api.ErrArg},
	} {
		got, n, e := card.Fill(x.kinds, x.buttons)
		wantError(t, name, e, x.want, got, n)
	}
}

// filled returns the best filling, by trying all numbers of cards from the first list on; nil if there is none.
func filled(kinds []api.CardKind, buttons int) ([]int, int) {
	var first []int
	fewest := 0
	taken := make([]int, len(kinds))
	for {
		held, cards := 0, 0
		for i, n := range taken {
			held += n * kinds[i].Holds
			cards += n
		}
		if held == buttons && (first == nil || cards < fewest) {
			first, fewest = slices.Clone(taken), cards
		}
		// the next list in lexicographic order
		last := len(taken) - 1
		for last >= 0 && taken[last] == kinds[last].Many {
			taken[last] = 0
			last--
		}
		if last < 0 {
			return first, fewest
		}
		taken[last]++
	}
}

// P6.7: no filling takes fewer cards than the best one, nor as many and is before it.
func TestFillByChance(t *testing.T) {
	d := dice(12)
	found, none := 0, 0
	for range 1500 {
		var list []api.CardKind
		held := 0
		for range d.from(1, api.CardKinds) {
			k := api.CardKind{Holds: d.from(1, []int{6, api.CardPer}[d.upTo(1)]), Many: d.upTo([]int{4, 9, api.CardMany}[d.upTo(2)])}
			list = append(list, k)
			held += d.upTo(k.Many) * k.Holds
		}
		buttons := []int{held, held, d.upTo(held + 10)}[d.upTo(2)]
		want, cards := filled(list, buttons)
		got, n, e := card.Fill(list, buttons)
		if want == nil {
			wantError(t, "no filling", e, api.ErrNone, got, n)
			none++
			continue
		}
		found++
		if e != api.OK || n != cards || !slices.Equal(got, want) {
			t.Fatalf("%v, %d: %v, %d, error %d, want %v, %d", list, buttons, got, n, e, want, cards)
		}
	}
	if found < 500 || none < 50 {
		t.Errorf("%d fillings, %d times none", found, none)
	}
}
