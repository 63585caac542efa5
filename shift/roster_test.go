package shift_test

import (
	"slices"
	"testing"

	"nacre/api"
	"nacre/shift"
)

// bestOfH and longOfH return rosters of the house h: the best one, and one on which the hand 1 can breathe too much.
func bestOfH() [][]int { return [][]int{{-1, -1, 0}, {0, 0, -1}, {1, 1, -1}} }

func longOfH() [][]int { return [][]int{{0, 1, -1}, {1, 0, 0}, {-1, -1, -1}} }

// limited returns the house h with other limits.
func limited(limits ...int) api.ShiftHouse {
	return changed(func(h *api.ShiftHouse) {
		for hand, n := range limits {
			h.Hands[hand].Limit = n
		}
	})
}

// P5.4 and P5.5: Staffs and Danger of rosters of the chapter's house; its example among others.
func TestStaffsOfH(t *testing.T) {
	overtime := changed(func(h *api.ShiftHouse) { h.Hands[1].Most = 1 })
	none := api.ShiftDanger{}
	for name, x := range map[string]struct {
		house  api.ShiftHouse
		roster [][]int
		kept   bool
		danger api.ShiftDanger
	}{
		"the best":                 {houseH(), bestOfH(), true, none},
		"the fan 0 is a danger":    {houseH(), longOfH(), false, api.ShiftDanger{Hand: 1, Failure: fanFails(0, 0)}},
		"a danger without failure": {limited(3), longOfH(), false, api.ShiftDanger{Hand: 0, Failure: noFailure()}},
		"the first of two hands":   {limited(3, 3), longOfH(), false, api.ShiftDanger{Hand: 0, Failure: noFailure()}},
		"the second hand alone":    {limited(20, 13), longOfH(), false, api.ShiftDanger{Hand: 1, Failure: noFailure()}},
		"just enough":              {limited(18, 18, 12), bestOfH(), true, none},
		"one too few for the last": {limited(18, 18, 11), bestOfH(), false, api.ShiftDanger{Hand: 2, Failure: fanFails(1, 0)}},
		"for the fan's hour 1 too": {limited(8), longOfH(), false, api.ShiftDanger{Hand: 0, Failure: fanFails(0, 0)}},
		"too long is no danger":    {overtime, bestOfH(), false, none},
		"all rest":                 {changed(func(h *api.ShiftHouse) { h.Open = make([]int, 3) }), slices.Repeat([][]int{{-1, -1, -1}}, 3), true, none},
		"rest with no limit":       {changed(func(h *api.ShiftHouse) { h.Hands[2] = hand(0, 0) }), longOfH(), false, api.ShiftDanger{Hand: 1, Failure: fanFails(0, 0)}},
	} {
		if kept, e := shift.Staffs(x.house, x.roster); e != api.OK || kept != x.kept {
			t.Errorf("%s: Staffs %v, error %d", name, kept, e)
		}
		danger, e := shift.Danger(x.house, x.roster)
		if x.danger == none {
			wantError(t, name, e, api.ErrNone, danger)
		} else if e != api.OK || danger != x.danger {
			t.Errorf("%s: Danger %v, error %d", name, danger, e)
		}
	}
}

// P5.4 and P5.5: Staffs and Danger have ErrArg for a list that is no roster, and for a house that is not as defined.
func TestBadRosters(t *testing.T) {
	check := func(name string, h api.ShiftHouse, roster [][]int) {
		t.Helper()
		kept, e := shift.Staffs(h, roster)
		wantError(t, name, e, api.ErrArg, kept)
		danger, e := shift.Danger(h, roster)
		wantError(t, name, e, api.ErrArg, danger)
	}
	for name, roster := range map[string][][]int{
		"nothing":                  nil,
		"a hand less":              bestOfH()[:2],
		"a hand more":              append(bestOfH(), []int{-1, -1, -1}),
		"many hands":               make([][]int, 1000000),
		"many hands at rest":       slices.Repeat([][]int{{-1, -1, -1}}, 100000),
		"nobody in an open room":   {{-1, -1, -1}, {0, 0, -1}, {1, 1, -1}},
		"two in a room":            {{0, -1, 0}, {0, 0, -1}, {1, 1, -1}},
		"two, and nobody":          {{-1, -1, 0}, {0, 0, -1}, {1, 0, -1}},
		"one in a closed room":     {{-1, -1, 0}, {0, 0, -1}, {1, 1, 1}},
		"in the other room":        {{-1, -1, 1}, {0, 0, -1}, {1, 1, -1}},
		"all at rest":              {{-1, -1, -1}, {-1, -1, -1}, {-1, -1, -1}},
		"a path of an hour less":   {{-1, -1, 0}, {0, 0}, {1, 1, -1}},
		"a path of an hour more":   {{-1, -1, 0}, {0, 0, -1, -1}, {1, 1, -1}},
		"no path":                  {{-1, -1, 0}, nil, {1, 1, -1}},
		"the room 2":               {{-1, -1, 0}, {0, 0, 2}, {1, 1, -1}},
		"the room -2":              {{-1, -1, 0}, {0, 0, -2}, {1, 1, -1}},
		"a room far above":         {{-1, -1, 0}, {0, 0, 1<<63 - 1}, {1, 1, -1}},
		"a room far below":         {{-1, -1, 0}, {0, 0, -1 << 63}, {1, 1, -1}},
		"the room 64":              {{-1, -1, 64}, {0, 0, -1}, {1, 1, -1}},
		"the last path is no path": {{-1, -1, 0}, {0, 0, -1}, {1, 1}},
	} {
		check(name, houseH(), roster)
	}
	for name, h := range badHouses() {
		check(name, h, bestOfH())
	}
}

// P5.4: Roster returns the best roster; the chapter's example and others of its house.
func TestRosterOfH(t *testing.T) {
	atRest := func() []int { return []int{-1, -1, -1} }
	for name, x := range map[string]struct {
		house api.ShiftHouse
		want  [][]int
		hands int
	}{
		"h":                       {houseH(), bestOfH(), 3},
		"a hand who breathes few": {limited(17), [][]int{{0, 1, -1}, {-1, -1, 0}, {1, 0, -1}}, 3},
		"two are enough":          {limited(20, 36, 20), [][]int{{-1, -1, -1}, {0, 0, 0}, {1, 1, -1}}, 2},
		"two, the last one idle":  {limited(12, 36, 3), [][]int{{0, 1, -1}, {1, 0, 0}, {-1, -1, -1}}, 2},
		"nothing is open":         {changed(func(h *api.ShiftHouse) { h.Open = make([]int, 3) }), [][]int{atRest(), atRest(), atRest()}, 0},
		"the last one goes":       {changed(func(h *api.ShiftHouse) { h.Open = []int{1, 0, 0} }), [][]int{atRest(), atRest(), {0, -1, -1}}, 1},
		"the last one may not":    {changed(func(h *api.ShiftHouse) { h.Open, h.Hands[2].Most = []int{1, 0, 0}, 0 }), [][]int{atRest(), {0, -1, -1}, atRest()}, 1},
		"nothing, without limits": {bareHouse(), [][]int{{-1}}, 0},
	} {
		if got, n, e := shift.Roster(x.house); e != api.OK || n != x.hands || !sameLists(got, x.want) {
			t.Errorf("%s: %v, %d, error %d, want %v, %d", name, got, n, e, x.want, x.hands)
		}
	}
	for name, h := range map[string]api.ShiftHouse{
		"one breathes too much":    limited(17, 17, 17),
		"one hand for two rooms":   changed(func(h *api.ShiftHouse) { h.Hands = h.Hands[:1] }),
		"two of them cannot":       changed(func(h *api.ShiftHouse) { h.Hands[0].Most, h.Hands[2].Most = 0, 0 }),
		"5 hours, and 4 are there": changed(func(h *api.ShiftHouse) { h.Hands = []api.ShiftHand{hand(2000, 2), hand(2000, 1), hand(2000, 1)} }),
	} {
		got, n, e := shift.Roster(h)
		wantError(t, name, e, api.ErrNone, got, n)
	}
	for name, h := range badHouses() {
		got, n, e := shift.Roster(h)
		wantError(t, name, e, api.ErrArg, got, n)
	}
}

// firstDanger returns the first danger of a roster; false if there is none.
func firstDanger(k known, roster [][]int) (api.ShiftDanger, bool) {
	for hand, path := range roster {
		for i, f := range k.failures {
			for _, dust := range k.dusts[i] {
				if breathedIn(dust, path) > k.house.Hands[hand].Limit {
					return api.ShiftDanger{Hand: hand, Failure: f}, true
				}
			}
		}
	}
	return api.ShiftDanger{}, false
}

// checkRoster fails unless Staffs and Danger return what truths give of a roster; it returns whether it is kept, and whether there is a danger.
func checkRoster(t *testing.T, k known, roster [][]int) (bool, bool) {
	t.Helper()
	want, tooLong := true, false
	for hand, path := range roster {
		want = want && k.isSure(hand, path)
		tooLong = tooLong || len(path)-hoursIn(path, -1) > k.house.Hands[hand].Most
	}
	kept, e := shift.Staffs(k.house, roster)
	if e != api.OK || kept != want {
		t.Fatalf("%v, %v: Staffs %v, error %d", k.house, roster, kept, e)
	}
	first, is := firstDanger(k, roster)
	danger, e := shift.Danger(k.house, roster)
	if !is {
		wantError(t, "no danger", e, api.ErrNone, danger)
	} else if e != api.OK || danger != first {
		t.Fatalf("%v, %v: Danger %v, error %d, want %v", k.house, roster, danger, e, first)
	}
	if !tooLong && kept == is {
		t.Fatalf("%v, %v: kept %v, and the danger %v", k.house, roster, kept, danger)
	}
	return kept, is
}

// P5.4 and P5.5: Staffs and Danger return what their definitions say; a roster with nobody for too long is kept just if it has no danger.
func TestStaffsByChance(t *testing.T) {
	d := dice(9)
	kept, dangers := 0, 0
	check := func(k known) {
		t.Helper()
		roster, ok := rosterBy(&d, k.house)
		if !ok {
			return
		}
		is, danger := checkRoster(t, k, roster)
		if is {
			kept++
		}
		if danger {
			dangers++
		}
	}
	for range 100 {
		check(tried(houseBy(&d, small())))
	}
	for range 500 {
		check(bounded(houseBy(&d, large())))
	}
	if kept < 50 || dangers < 50 {
		t.Errorf("%d kept, %d dangers", kept, dangers)
	}
}

// P5.4: Roster returns the first one of the rosters that are kept with the fewest hands, of all rosters.
func TestRosterOfSmallHouses(t *testing.T) {
	d := dice(10)
	found, several := 0, 0
	for range 150 {
		k := tried(houseBy(&d, small()))
		var best [][]int
		for _, roster := range rosters(k.house) {
			kept := true
			for hand, path := range roster {
				kept = kept && k.isSure(hand, path)
			}
			if kept && (best == nil || working(roster) < working(best)) {
				best = roster
			}
		}
		got, n, e := shift.Roster(k.house)
		if best == nil {
			wantError(t, "none is kept", e, api.ErrNone, got, n)
			continue
		}
		if e != api.OK || n != working(best) || !sameLists(got, best) {
			t.Fatalf("%v: %v, %d, error %d, want %v", k.house, got, n, e, best)
		}
		found++
		if n > 1 {
			several++
		}
	}
	if found < 30 || several < 10 {
		t.Errorf("%d found, %d with several hands", found, several)
	}
}

// P5.4: Roster returns one that is kept, and no other one that is kept has fewer hands, or as many and comes before it.
func TestRosterOfLargeHouses(t *testing.T) {
	d := dice(11)
	found, others := 0, 0
	for range 150 {
		h := houseBy(&d, large())
		for hand := range h.Hands {
			h.Hands[hand].Limit = d.upTo(600)
		}
		best, n, e := shift.Roster(h)
		if e == api.OK {
			found++
			if kept, e := shift.Staffs(h, best); e != api.OK || !kept || n != working(best) {
				t.Fatalf("%v: %v, %d, error %d", h, best, n, e)
			}
		} else {
			wantError(t, "none is kept", e, api.ErrNone, best, n)
		}
		for range 50 {
			roster, ok := rosterBy(&d, h)
			if !ok {
				break
			}
			kept, _ := shift.Staffs(h, roster)
			if !kept {
				continue
			}
			others++
			if e != api.OK || working(roster) < n || working(roster) == n && compareRosters(roster, best) < 0 {
				t.Fatalf("%v: %v, %d, error %d, but %v", h, best, n, e, roster)
			}
		}
	}
	if found < 30 || others < 100 {
		t.Errorf("%d found, %d others", found, others)
	}
}

// P5.4 and P0.5: with a roster that is kept, nobody breathes more than the Limit, whatever is true.
func TestKeptOfAnyTruth(t *testing.T) {
	d := dice(12)
	just := 0
	for range 300 {
		h := houseBy(&d, large())
		for hand := range h.Hands {
			h.Hands[hand].Limit = d.upTo(600)
		}
		roster, _, e := shift.Roster(h)
		if e != api.OK {
			continue
		}
		for range 20 {
			truth := truthBy(&d, h)
			dust := dustIn(h, truth)
			for hand, path := range roster {
				n := breathedIn(dust, path)
				if n > h.Hands[hand].Limit || len(path)-hoursIn(path, -1) > h.Hands[hand].Most {
					t.Fatalf("%v, %v, %v: the hand %d breathes %d", h, roster, truth, hand, n)
				}
				if n > 0 {
					just++
				}
			}
		}
	}
	if just < 500 {
		t.Errorf("%d breathe something", just)
	}
}
