package shift_test

import (
	"slices"
	"testing"

	"nacre/api"
	"nacre/shift"
)

// P5.7: Made returns what is made with a failure; the chapter's examples and others of its house.
func TestMadeOfH(t *testing.T) {
	for _, x := range []struct {
		failure api.ShiftFailure
		want    int
	}{
		{noFailure(), 40}, {fanFails(0, 0), 40}, {fanFails(1, 2), 40},
		{machineFails(0, 0), 20}, {machineFails(0, 1), 20}, {machineFails(0, 2), 30},
		{machineFails(1, 0), 35}, {machineFails(1, 1), 35}, {machineFails(1, 2), 40},
	} {
		if got, e := shift.Made(houseH(), x.failure); e != api.OK || got != x.want {
			t.Errorf("%v: %d, error %d, want %d", x.failure, got, e, x.want)
		}
	}
	if got, e := shift.Makes(houseH()); e != api.OK || got != span(20, 40) {
		t.Errorf("%v, error %d", got, e)
	}
	if got, e := shift.Makes(fullHouse()); e != api.OK || got != span(8000, 12000) {
		t.Errorf("%v, error %d", got, e)
	}
	for _, f := range badFailures() {
		got, e := shift.Made(houseH(), f)
		wantError(t, "a failure", e, api.ErrArg, got)
	}
	for name, h := range badHouses() {
		got, e := shift.Made(h, noFailure())
		wantError(t, name, e, api.ErrArg, got)
		s, e := shift.Makes(h)
		wantError(t, name, e, api.ErrArg, s)
	}
}

// P5.7: Made and Makes return what the hours sum to in which machines run; whatever fails, no less is made, and no more.
func TestMadeByChance(t *testing.T) {
	d := dice(8)
	for range 500 {
		h := houseBy(&d, large())
		s, e := shift.Makes(h)
		var all []int
		for _, f := range failuresOf(h) {
			want := 0
			for room, r := range h.Rooms {
				for hour := range h.Hours {
					if isRunning(h, f, room, hour) {
						want += r.Make
					}
				}
			}
			all = append(all, want)
			if got, e := shift.Made(h, f); e != api.OK || got != want {
				t.Fatalf("%v, %v: %d, error %d, want %d", h, f, got, e, want)
			}
		}
		if e != api.OK || s != span(slices.Min(all), slices.Max(all)) {
			t.Fatalf("%v: %v, error %d", h, s, e)
		}
	}
}
