package shift_test

import (
	"slices"
	"testing"

	"nacre/api"
	"nacre/shift"
)

// P5.1: Check returns OK for a house that is as defined, and ErrArg for others.
func TestCheck(t *testing.T) {
	for name, h := range map[string]api.ShiftHouse{
		"h":              houseH(),
		"the least":      bareHouse(),
		"the most":       fullHouse(),
		"a Wait too far": changed(func(h *api.ShiftHouse) { h.Rooms[0].Wait = 4 }),
		"a Most too far": changed(func(h *api.ShiftHouse) { h.Hands[0].Most = 4 }),
		"no fans":        changed(func(h *api.ShiftHouse) { h.Fans = nil }),
		"all closed":     changed(func(h *api.ShiftHouse) { h.Open = make([]int, 3) }),
		"dust of all":    changed(func(h *api.ShiftHouse) { h.Rooms[0].Dust = span(0, 50) }),
	} {
		wantError(t, name, shift.Check(h), api.OK)
	}
	for name, h := range badHouses() {
		wantError(t, name, shift.Check(h), api.ErrArg)
	}
}

// dusts returns dust for the house h: the same in all hours of a room.
func dusts(first, second int) [][]int {
	return [][]int{slices.Repeat([]int{first}, 3), slices.Repeat([]int{second}, 3)}
}

// P5.1: Run returns the dust in each room, in each hour, in truths of the chapter's house.
func TestRunOfH(t *testing.T) {
	for name, x := range map[string]struct {
		house api.ShiftHouse
		truth api.ShiftTruth
		want  [][]int
	}{
		"the least":                {houseH(), api.ShiftTruth{Dust: dusts(4, 1), Failure: noFailure()}, [][]int{{0, 0, 0}, {3, 3, 2}}},
		"the most":                 {houseH(), api.ShiftTruth{Dust: dusts(6, 2), Failure: noFailure()}, [][]int{{2, 4, 6}, {4, 5, 4}}},
		"hour by hour":             {houseH(), api.ShiftTruth{Dust: [][]int{{6, 4, 5}, {1, 2, 2}}, Failure: noFailure()}, [][]int{{2, 2, 3}, {3, 4, 3}}},
		"the fan 0, hour 0":        {houseH(), api.ShiftTruth{Dust: dusts(6, 2), Failure: fanFails(0, 0)}, [][]int{{6, 12, 18}, {4, 5, 4}}},
		"the fan 0, hour 1":        {houseH(), api.ShiftTruth{Dust: dusts(6, 2), Failure: fanFails(0, 1)}, [][]int{{2, 8, 14}, {4, 5, 4}}},
		"the fan 0, hour 2":        {houseH(), api.ShiftTruth{Dust: dusts(6, 2), Failure: fanFails(0, 2)}, [][]int{{2, 4, 10}, {4, 5, 4}}},
		"the fan 1, hour 0":        {houseH(), api.ShiftTruth{Dust: dusts(6, 2), Failure: fanFails(1, 0)}, [][]int{{2, 4, 6}, {5, 7, 7}}},
		"the machine 0, hour 0":    {houseH(), api.ShiftTruth{Dust: dusts(6, 2), Failure: machineFails(0, 0)}, [][]int{{0, 0, 2}, {4, 5, 4}}},
		"the machine 0, hour 2":    {houseH(), api.ShiftTruth{Dust: dusts(6, 2), Failure: machineFails(0, 2)}, [][]int{{2, 4, 0}, {4, 5, 4}}},
		"the machine 1, hour 0":    {houseH(), api.ShiftTruth{Dust: dusts(4, 1), Failure: machineFails(1, 0)}, [][]int{{0, 0, 0}, {2, 2, 1}}},
		"a machine that waits not": {changed(func(h *api.ShiftHouse) { h.Rooms[0].Wait = 0 }), api.ShiftTruth{Dust: dusts(6, 2), Failure: machineFails(0, 0)}, [][]int{{2, 4, 6}, {4, 5, 4}}},
		"a machine that waits on":  {changed(func(h *api.ShiftHouse) { h.Rooms[0].Wait = 4 }), api.ShiftTruth{Dust: dusts(6, 2), Failure: machineFails(0, 1)}, [][]int{{2, 0, 0}, {4, 5, 4}}},
		"two fans in a room":       {changed(func(h *api.ShiftHouse) { h.Fans[1].Room = 0 }), api.ShiftTruth{Dust: dusts(6, 2), Failure: noFailure()}, [][]int{{1, 2, 3}, {5, 7, 7}}},
		"one of them fails":        {changed(func(h *api.ShiftHouse) { h.Fans[1].Room = 0 }), api.ShiftTruth{Dust: dusts(6, 2), Failure: fanFails(0, 1)}, [][]int{{1, 6, 11}, {5, 7, 7}}},
		"all is closed":            {changed(func(h *api.ShiftHouse) { h.Open = make([]int, 3) }), api.ShiftTruth{Dust: dusts(6, 2), Failure: noFailure()}, [][]int{{0, 0, 0}, {2, 1, 0}}},
	} {
		if got, e := shift.Run(x.house, x.truth); e != api.OK || !sameLists(got, x.want) {
			t.Errorf("%s: %v, error %d, want %v", name, got, e, x.want)
		}
	}
}

// P5.1: Fits tells truths from others, and Run has ErrArg for what is none.
func TestFitsOfH(t *testing.T) {
	for name, x := range map[string]struct {
		room, hour, n int
		fits          bool
	}{
		"the least":           {0, 1, 4, true},
		"the most":            {0, 2, 6, true},
		"below":               {0, 0, 3, false},
		"above":               {0, 2, 7, false},
		"the least of 1":      {1, 1, 1, true},
		"the most of 1":       {1, 0, 2, true},
		"below in 1":          {1, 0, 0, false},
		"above in 1":          {1, 1, 3, false},
		"below, while closed": {1, 2, 0, false},
		"above, while closed": {1, 2, 3, false},
		"far below":           {1, 2, -1 << 63, false},
		"far above":           {0, 0, 1<<63 - 1, false},
	} {
		for _, f := range failuresOf(houseH()) {
			truth := api.ShiftTruth{Dust: dusts(5, 2), Failure: f}
			truth.Dust[x.room][x.hour] = x.n
			if fits, e := shift.Fits(houseH(), truth); e != api.OK || fits != x.fits {
				t.Errorf("%s, %v: Fits %v, error %d", name, f, fits, e)
			}
			dust, e := shift.Run(houseH(), truth)
			if x.fits && (e != api.OK || !sameLists(dust, dustIn(houseH(), truth))) {
				t.Errorf("%s, %v: Run %v, error %d", name, f, dust, e)
			}
			if !x.fits {
				wantError(t, name, e, api.ErrArg, dust)
			}
		}
	}
	// a machine that stands still could have made something
	truth := api.ShiftTruth{Dust: dusts(0, 1), Failure: machineFails(0, 0)}
	if fits, e := shift.Fits(changed(func(h *api.ShiftHouse) { h.Rooms[0].Wait = 4 }), truth); e != api.OK || fits {
		t.Errorf("still: Fits %v, error %d", fits, e)
	}
}

// P5.1: Fits and Run have ErrArg for a failure that is none of the house, and for lists without a number for each room and hour.
func TestFitsOfOthers(t *testing.T) {
	check := func(name string, h api.ShiftHouse, truth api.ShiftTruth) {
		t.Helper()
		fits, e := shift.Fits(h, truth)
		wantError(t, name, e, api.ErrArg, fits)
		dust, e := shift.Run(h, truth)
		wantError(t, name, e, api.ErrArg, dust)
	}
	for _, f := range badFailures() {
		check("a failure", houseH(), api.ShiftTruth{Dust: dusts(4, 1), Failure: f})
		check("a failure, and no truth", houseH(), api.ShiftTruth{Dust: dusts(9, 9), Failure: f})
	}
	check("no fans", bareHouse(), api.ShiftTruth{Dust: [][]int{{0}}, Failure: fanFails(0, 0)})
	for name, dust := range map[string][][]int{
		"nothing":           nil,
		"a room less":       dusts(4, 1)[:1],
		"a room more":       append(dusts(4, 1), []int{1, 1, 1}),
		"no hours":          {nil, nil},
		"an hour less":      {{4, 4, 4}, {1, 1}},
		"an hour more":      {{4, 4, 4, 4}, {1, 1, 1}},
		"and no truth":      {{99, 4, 4}, {1, 1}},
		"many rooms":        make([][]int, 1000000),
		"many hours":        {make([]int, 1000000), {1, 1, 1}},
		"rooms for hours":   {{4, 1}, {4, 1}, {4, 1}},
		"all in one":        {{4, 4, 4, 1, 1, 1}},
		"an hour elsewhere": {{4, 4}, {4, 1, 1, 1}},
	} {
		check(name, houseH(), api.ShiftTruth{Dust: dust, Failure: noFailure()})
	}
	for name, h := range badHouses() {
		check(name, h, api.ShiftTruth{Dust: dusts(4, 1), Failure: noFailure()})
	}
}

// P5.1: Fits takes each truth, and Run returns its dust.
func TestRunByChance(t *testing.T) {
	d := dice(1)
	for range 2000 {
		h := houseBy(&d, large())
		truth := truthBy(&d, h)
		fits, e := shift.Fits(h, truth)
		dust, g := shift.Run(h, truth)
		if e != api.OK || g != api.OK || !fits || !sameLists(dust, dustIn(h, truth)) {
			t.Fatalf("%v, %v: %v %v, errors %d %d, want %v", h, truth, fits, dust, e, g, dustIn(h, truth))
		}
	}
}

// P5.1: Known returns the least and the most dust; the chapter's example.
func TestKnownOfH(t *testing.T) {
	want := [][]api.Span{{span(0, 6), span(0, 12), span(0, 18)}, {span(2, 5), span(2, 7), span(1, 7)}}
	if got, e := shift.Known(houseH()); e != api.OK || !sameLists(got, want) {
		t.Errorf("%v, error %d", got, e)
	}
	full := slices.Repeat([][]api.Span{{span(50, 100), span(50, 150), span(50, 200), span(50, 250)}}, 2)
	full = append(full, []api.Span{only(0), only(0), only(0), only(0)})
	if got, e := shift.Known(fullHouse()); e != api.OK || !sameLists(got, full) {
		t.Errorf("%v, error %d", got, e)
	}
	for name, h := range badHouses() {
		got, e := shift.Known(h)
		wantError(t, name, e, api.ErrArg, got)
	}
}

// checkKnown fails unless Known returns what truths give.
func checkKnown(t *testing.T, k known) {
	t.Helper()
	got, e := shift.Known(k.house)
	if e != api.OK || len(got) != len(k.house.Rooms) {
		t.Fatalf("%v: %v, error %d", k.house, got, e)
	}
	for room, bounds := range got {
		if len(bounds) != k.house.Hours {
			t.Fatalf("%v: %v", k.house, got)
		}
		for hour, s := range bounds {
			if want := k.ends(func(dust [][]int) int { return dust[room][hour] }); s != want {
				t.Fatalf("%v: %v in the room %d, the hour %d, want %v", k.house, s, room, hour, want)
			}
		}
	}
}

// P5.1: Known returns the ends that all truths reach.
func TestKnownByChance(t *testing.T) {
	d := dice(2)
	for range 100 {
		checkKnown(t, tried(houseBy(&d, small())))
	}
	for range 300 {
		h := houseBy(&d, large())
		checkKnown(t, bounded(h))
		got, _ := shift.Known(h)
		for range 20 {
			truth := truthBy(&d, h)
			for room, dust := range dustIn(h, truth) {
				for hour, n := range dust {
					if !isIn(n, got[room][hour]) {
						t.Fatalf("%v, %v: %d is not in %v", h, truth, n, got[room][hour])
					}
				}
			}
		}
	}
}
