package card_test

import (
	"slices"
	"testing"

	"nacre/api"
	"nacre/card"
)

// P6.1: Check returns OK for a round that is as defined, and ErrArg for others.
func TestCheck(t *testing.T) {
	for name, r := range map[string]api.CardRound{
		"r":                     roundR(),
		"q, which agrees not":   roundQ(),
		"the least":             bareRound(),
		"the most":              fullRound(),
		"buttons of one weight": changed(func(r *api.CardRound) { r.Button = only(50) }),
		"buttons of 5 weights":  changed(func(r *api.CardRound) { r.Button = span(1, 5) }),
		"more loose than Per":   changed(func(r *api.CardRound) { r.Houses[0].Loose = 36 }),
		"more full than Cards":  changed(func(r *api.CardRound) { r.Houses[0].Full = 60 }),
		"more than Out":         changed(func(r *api.CardRound) { r.Houses[0].Out = 0 }),
	} {
		wantError(t, name, card.Check(r), api.OK)
	}
	for name, r := range badRounds() {
		wantError(t, name, card.Check(r), api.ErrArg)
	}
}

// truthR returns a truth of the round r.
func truthR(fullA, fullB, looseA, looseB int) api.CardTruth {
	return api.CardTruth{Button: 3, Full: []int{fullA, fullB}, Loose: []int{looseA, looseB}}
}

// P6.1: Fits tells truths from others; each condition has its edges.
func TestFitsOfR(t *testing.T) {
	same := func(r *api.CardRound) {}
	// so much is allowed here that only one condition decides
	loose := func(change func(r *api.CardRound)) func(r *api.CardRound) {
		return func(r *api.CardRound) {
			r.Slack, r.Off, r.Houses[0].Miss, r.Houses[1].Miss = 500, 100, 3, 3
			change(r)
		}
	}
	for name, x := range map[string]struct {
		change func(r *api.CardRound)
		truth  api.CardTruth
		want   bool
	}{
		"as counted":            {same, truthR(4, 3, 7, 9), true},
		"one less, one more":    {same, truthR(4, 3, 6, 10), true},
		"one more, one less":    {same, truthR(4, 3, 8, 8), true},
		"together too few":      {same, truthR(4, 3, 7, 8), false},
		"together too many":     {same, truthR(4, 3, 8, 9), false},
		"beyond the Miss":       {same, truthR(4, 3, 9, 7), false},
		"beyond it, below":      {same, truthR(4, 3, 5, 11), false},
		"a light button":        {same, api.CardTruth{Button: 2, Full: []int{4, 3}, Loose: []int{7, 9}}, false},
		"a weight of 1":         {loose(same), api.CardTruth{Button: 1, Full: []int{4, 3}, Loose: []int{7, 9}}, false},
		"a weight of 2":         {loose(same), api.CardTruth{Button: 2, Full: []int{4, 3}, Loose: []int{7, 9}}, true},
		"a weight of 4":         {loose(same), api.CardTruth{Button: 4, Full: []int{4, 3}, Loose: []int{7, 9}}, false},
		"one less, Off 1":       {func(r *api.CardRound) { r.Off = 1 }, truthR(4, 3, 7, 8), true},
		"one more, Off 1":       {func(r *api.CardRound) { r.Off = 1 }, truthR(4, 3, 8, 9), true},
		"two more, Off 1":       {func(r *api.CardRound) { r.Off = 1 }, truthR(4, 3, 8, 10), false},
		"two less, Off 1":       {func(r *api.CardRound) { r.Off = 1 }, truthR(4, 3, 6, 8), false},
		"weighs 4 more":         {func(r *api.CardRound) { r.Houses[0].Weighed = 181 }, truthR(4, 3, 7, 9), true},
		"weighs 5 more":         {func(r *api.CardRound) { r.Houses[0].Weighed = 180 }, truthR(4, 3, 7, 9), false},
		"weighs 4 less":         {func(r *api.CardRound) { r.Houses[0].Weighed = 189 }, truthR(4, 3, 7, 9), true},
		"weighs 5 less":         {func(r *api.CardRound) { r.Houses[0].Weighed = 190 }, truthR(4, 3, 7, 9), false},
		"just enough cards":     {func(r *api.CardRound) { r.Houses[0].Cards = 4 }, truthR(4, 3, 7, 9), true},
		"all that were out":     {func(r *api.CardRound) { r.Houses[0].Out = 55 }, truthR(4, 3, 7, 9), true},
		"more than were out":    {func(r *api.CardRound) { r.Houses[0].Out = 54 }, truthR(4, 3, 7, 9), false},
		"all cards":             {loose(same), truthR(5, 3, 0, 9), false},
		"all cards, near":       {loose(func(r *api.CardRound) { r.Houses[0].Loose = 3 }), truthR(5, 3, 0, 9), true},
		"a card too much":       {loose(func(r *api.CardRound) { r.Houses[0].Cards = 4; r.Houses[0].Loose = 3 }), truthR(5, 3, 0, 9), false},
		"no cards":              {loose(func(r *api.CardRound) { r.Houses[1].Full = 3 }), truthR(4, 0, 7, 9), true},
		"cards below 0":         {loose(func(r *api.CardRound) { r.Houses[1].Full = 1 }), truthR(4, -1, 7, 9), false},
		"no loose ones":         {loose(func(r *api.CardRound) { r.Houses[1].Loose = 3 }), truthR(4, 3, 7, 0), true},
		"loose ones below 0":    {loose(func(r *api.CardRound) { r.Houses[1].Loose = 1 }), truthR(4, 3, 7, -1), false},
		"Per - 1 loose ones":    {loose(same), truthR(4, 3, 7, 11), true},
		"Per loose ones":        {loose(same), truthR(4, 3, 7, 12), false},
		"full, 3 from counted":  {loose(func(r *api.CardRound) { r.Houses[0].Full = 7 }), truthR(4, 3, 7, 9), true},
		"full, 4 from counted":  {loose(func(r *api.CardRound) { r.Houses[0].Full = 8 }), truthR(4, 3, 7, 9), false},
		"full, 3 from it above": {loose(func(r *api.CardRound) { r.Houses[0].Full = 1 }), truthR(4, 3, 7, 9), true},
		"full, 4 from it above": {loose(func(r *api.CardRound) { r.Houses[0].Full = 0 }), truthR(4, 3, 7, 9), false},
		"far above":             {loose(same), truthR(far, 3, 7, 9), false},
		"far below":             {loose(same), truthR(-far-1, 3, 7, 9), false},
		"far above, loose":      {loose(same), truthR(4, 3, 7, far), false},
		"far below, loose":      {loose(same), truthR(4, 3, -far-1, 9), false},
		"both far":              {loose(same), truthR(far/12+1, 3, far, 9), false},
		"a button far above":    {loose(same), api.CardTruth{Button: far, Full: []int{4, 3}, Loose: []int{7, 9}}, false},
		"a button far below":    {loose(same), api.CardTruth{Button: -far - 1, Full: []int{4, 3}, Loose: []int{7, 9}}, false},
	} {
		if got, e := card.Fits(changed(x.change), x.truth); e != api.OK || got != x.want {
			t.Errorf("%s: %v, error %d", name, got, e)
		}
	}
}

// P6.1: Fits has ErrArg for a round that is not as defined, and for lists that have not a number for each house.
func TestFitsOfOthers(t *testing.T) {
	for name, x := range map[string]api.CardTruth{
		"nothing":           {},
		"no full cards":     {Button: 3, Loose: []int{7, 9}},
		"no loose ones":     {Button: 3, Full: []int{4, 3}},
		"one number less":   {Button: 3, Full: []int{4}, Loose: []int{7, 9}},
		"one loose less":    {Button: 3, Full: []int{4, 3}, Loose: []int{7}},
		"one number more":   {Button: 3, Full: []int{4, 3, 0}, Loose: []int{7, 9}},
		"one loose more":    {Button: 3, Full: []int{4, 3}, Loose: []int{7, 9, 0}},
		"far too many":      {Button: 3, Full: make([]int, 100000), Loose: make([]int, 100000)},
		"and no such truth": {Button: 99, Full: []int{4}, Loose: []int{7}},
	} {
		got, e := card.Fits(roundR(), x)
		wantError(t, name, e, api.ErrArg, got)
	}
	for name, r := range badRounds() {
		got, e := card.Fits(r, truthR(4, 3, 7, 9))
		wantError(t, name, e, api.ErrArg, got)
		got, e = card.Fits(r, api.CardTruth{Button: 3, Full: make([]int, len(r.Houses)), Loose: make([]int, len(r.Houses))})
		wantError(t, name, e, api.ErrArg, got)
	}
}

// P6.1: Fits reports what the definitions say, for truths and others near them.
func TestFitsByChance(t *testing.T) {
	d := dice(1)
	met := map[bool]int{}
	for range 20000 {
		r, x := roundBy(&d, large())
		switch house := d.upTo(len(r.Houses) - 1); d.upTo(4) {
		case 0:
			x.Full[house] += d.from(-1, 1)
		case 1:
			x.Loose[house] += d.from(-2, 2)
		case 2:
			x.Button += d.from(-1, 1)
		case 3:
			miscount(&d, r, house)
		}
		want := isTruth(r, x, nobody)
		if got, e := card.Fits(r, x); e != api.OK || got != want {
			t.Fatalf("%v, %v: %v, error %d", r, x, got, e)
		}
		met[want]++
	}
	if met[true] < 5000 || met[false] < 5000 {
		t.Errorf("too few of one kind: %v", met)
	}
}

// P6.1: Agree of the chapter's rounds, and of rounds near them.
func TestAgreeOfR(t *testing.T) {
	for name, x := range map[string]struct {
		r    api.CardRound
		want bool
	}{
		"r":               {roundR(), true},
		"q":               {roundQ(), false},
		"the least":       {bareRound(), true},
		"the most":        {fullRound(), false},
		"All 98":          {changed(func(r *api.CardRound) { r.All = 98 }), true},
		"All 97":          {changed(func(r *api.CardRound) { r.All = 97 }), false},
		"All 102":         {changed(func(r *api.CardRound) { r.All = 102 }), true},
		"All 103":         {changed(func(r *api.CardRound) { r.All = 103 }), false},
		"All 103, Off 1":  {changed(func(r *api.CardRound) { r.All, r.Off = 103, 1 }), true},
		"only light ones": {changed(func(r *api.CardRound) { r.Button = span(1, 2) }), false},
		"heavier ones":    {changed(func(r *api.CardRound) { r.Button = span(3, 7) }), true},
		"far heavier":     {changed(func(r *api.CardRound) { r.Button = span(4, 8) }), false},
	} {
		if got, e := card.Agree(x.r); e != api.OK || got != x.want {
			t.Errorf("%s: %v, error %d", name, got, e)
		}
	}
	for name, r := range badRounds() {
		got, e := card.Agree(r)
		wantError(t, name, e, api.ErrArg, got)
	}
}

// P6.1 and P6.2: each house can be right alone, but with other weights of a button: then the round does not agree.
func TestOneWeight(t *testing.T) {
	r := api.CardRound{Per: 10, Button: span(2, 3), All: 60, Off: 100, Houses: []api.CardHouse{
		{Out: 100, Cards: 5, Full: 3, Loose: 0, Weighed: 60}, {Out: 100, Cards: 5, Full: 3, Loose: 0, Weighed: 90},
	}}
	if got, e := card.Agree(r); e != api.OK || got {
		t.Errorf("%v, error %d", got, e)
	}
	r.Houses[1].Weighed = 60
	if got, e := card.Agree(r); e != api.OK || !got {
		t.Errorf("%v, error %d", got, e)
	}
	if got, e := card.Buttons(r); e != api.OK || got != only(2) {
		t.Errorf("%v, error %d", got, e)
	}
	// each house alone could have brought 20 or 21 buttons of 3, or 30 or 31 buttons of 2
	r.Houses[0].Miss, r.Houses[1].Miss, r.Slack, r.Off = 1, 1, 6, 0
	for all, want := range map[int]api.Span{60: only(30), 61: span(30, 31), 62: only(31), 41: span(20, 21), 42: only(21)} {
		r.All = all
		if got, e := card.Known(r); e != api.OK || !slices.Equal(got, []api.Span{want, want}) {
			t.Errorf("%d: %v, error %d", all, got, e)
		}
	}
	for _, all := range []int{39, 43, 50, 51, 52, 59, 63} {
		r.All = all
		if got, e := card.Agree(r); e != api.OK || got {
			t.Errorf("%d: %v, error %d", all, got, e)
		}
	}
}
