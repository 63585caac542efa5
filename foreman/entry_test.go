package foreman_test

import (
	"slices"
	"testing"

	"nacre/api"
	"nacre/drum"
	"nacre/foreman"
	"nacre/shell"
)

// step is an entry, and its error.
type step struct {
	x api.ForemanEntry
	e api.Errno
}

// wantSteps makes entries at a new desk, and fails unless they have their errors, and only those without one are made.
func wantSteps(t *testing.T, s api.ForemanSuite, steps ...step) {
	t.Helper()
	d, l := opened(t, s), newLedger(s)
	for i, x := range steps {
		if e := d.Enter(x.x); e != x.e {
			t.Fatalf("%d, %v: error %d, want %d", i, x.x, e, x.e)
		}
		if e := l.enter(x.x); e != x.e {
			t.Fatalf("%d, %v: error %d in the ledger, want %d", i, x.x, e, x.e)
		}
		wantLedger(t, d, l)
	}
}

// P10.2: the blanks that were cut are a cutting.
func TestCut(t *testing.T) {
	wantSteps(t, suiteS(),
		step{cut(0, 0, 1), api.ErrRule}, // a worm hole
		step{cut(0, 3, 0), api.ErrRule}, // outside
		step{cut(0, 4, 0), api.ErrRule}, // no cells
		step{cut(3, 0, 0), api.ErrRule}, // no rows
		step{cut(9999, 9999, 0), api.ErrRule},
		step{cut(0, 0, 2), api.ErrArg},
		step{cut(9999, 0, 9999), api.ErrArg},
		step{cut(1, 2, 1), api.OK},
		step{cut(0, 2, 0), api.OK}, // before the other one, in their order
		step{cut(0, 2, 0), api.ErrRule},
		step{cut(1, 0, 0), api.ErrRule}, // beside another width
		step{cut(2, 1, 0), api.ErrRule}, // the band of the first one
		step{cut(1, 2, 1), api.ErrRule},
		step{cut(0, 0, 0), api.OK},
		step{cut(0, 1, 0), api.OK},
		step{cut(0, 1, 0), api.ErrRule},
	)
	// of two blanks side by side, none can be cut that surely gives no slice
	s := changed(func(s *api.ForemanSuite) { s.Work.Tubes[0].Need = 9 })
	wantSteps(t, s, step{cut(0, 2, 0), api.ErrRule}, step{cut(0, 1, 0), api.OK}, step{cut(0, 0, 0), api.OK}, step{cut(0, 2, 0), api.ErrRule})
	// a crack within a blank, and bands of one width below each other
	s = changed(func(s *api.ForemanSuite) {
		s.Work.Map.Cells[1][1] = api.ShellSolid
		s.Work.Map.Probed = nil
	})
	wantSteps(t, s, step{cut(0, 0, 1), api.ErrRule}, step{cut(0, 1, 1), api.OK}, step{cut(1, 2, 1), api.ErrRule}, step{cut(2, 1, 0), api.OK}, step{cut(2, 2, 0), api.OK})
}

// P10.2: a batch is taken once, in its window, and hours do not decrease.
func TestTake(t *testing.T) {
	wantSteps(t, suiteS(),
		step{take(2, 0, 1), api.ErrRule}, // nothing was had
		step{cut(0, 0, 0), api.OK},
		step{cut(0, 1, 0), api.OK},
		step{take(0, 2, 5), api.ErrRule},
		step{take(0, 1, 1), api.ErrRule}, // rough still
		step{take(0, 3, 1), api.ErrRule}, // too thin
		step{take(0, 5, 1), api.ErrArg},
		step{take(0, 9999, 1), api.ErrArg},
		step{take(3, 0, 1), api.ErrArg},
		step{take(0, 2, 0), api.ErrArg},
		step{take(0, 0, 0), api.ErrArg},
		step{take(9999, 9999, 0), api.ErrArg},
		step{take(2, 0, 1), api.OK},
		step{take(2, 0, 1), api.ErrRule},
		step{take(0, 2, 4), api.ErrRule},
		step{take(1, 3, 1), api.OK},
		step{take(0, 2, 1), api.ErrRule}, // an hour before
		step{take(1, 3, 1), api.ErrRule},
		step{strike(3), api.OK},
		step{take(0, 2, 3), api.OK},
		step{take(1, 2, 1), api.ErrRule},
		step{cut(0, 2, 0), api.OK},
		step{take(1, 2, 1), api.OK}, // in the same hour
	)
	// the last hour is one after which batches can be taken
	s := changed(func(s *api.ForemanSuite) { s.Drum.Batches[1].Least = 0 })
	wantSteps(t, s, step{cut(0, 0, 0), api.OK}, step{take(1, 4, 2), api.OK})
	// a batch that never has a window
	s = changed(func(s *api.ForemanSuite) { s.Drum.Batches[1].Least = 90 })
	wantSteps(t, s, step{cut(0, 0, 0), api.OK}, step{take(1, 1, 1), api.ErrRule}, step{take(1, 2, 1), api.ErrRule}, step{take(1, 0, 1), api.ErrRule}, step{take(2, 0, 1), api.OK})
}

// P10.2, P10.5: no more is sent than was polished, and no more brought than is out.
func TestSendAndBring(t *testing.T) {
	wantSteps(t, suiteS(),
		step{send(0, 1), api.ErrRule},
		step{bring(0, 1), api.ErrRule},
		step{cut(0, 0, 0), api.OK},
		step{cut(0, 1, 0), api.OK},
		step{send(0, 1), api.ErrRule}, // had, but not polished
		step{take(2, 0, 3), api.OK},
		step{send(0, 4), api.ErrRule},
		step{send(0, 0), api.ErrArg},
		step{send(2, 1), api.ErrArg},
		step{send(2, 9999), api.ErrArg},
		step{send(1, 2), api.OK},
		step{send(0, 2), api.ErrRule},
		step{send(0, 1), api.OK},
		step{send(0, 1), api.ErrRule},
		step{bring(0, 2), api.ErrRule},
		step{bring(0, 0), api.ErrArg},
		step{bring(2, 1), api.ErrArg},
		step{bring(9999, 0), api.ErrArg},
		step{bring(1, 1), api.OK},
		step{bring(1, 2), api.ErrRule},
		step{send(0, 1), api.ErrRule}, // what was brought is not sent again
		step{bring(1, 1), api.OK},
		step{bring(1, 1), api.ErrRule},
		step{bring(0, 1), api.OK},
		step{bring(0, 1), api.ErrRule},
	)
}

// P10.2: finds come in the order of their days, and have some mould.
func TestFind(t *testing.T) {
	wantSteps(t, suiteS(),
		step{find(256, 1), api.ErrArg},
		step{find(255, 100), api.ErrArg},
		step{find(9999, 9999), api.ErrArg},
		step{find(255, 99), api.ErrRule},
		step{find(1, 0), api.ErrRule}, // no loan had begun
		step{find(5, 2), api.ErrRule},
		step{find(1, 2), api.OK},
		step{find(1, 2), api.OK}, // on the same day, the same
		step{find(1, 1), api.ErrRule},
		step{find(5, 99), api.OK},
		step{find(0, 98), api.ErrRule},
		step{strike(2), api.OK},
		step{find(0, 98), api.OK},
		step{find(5, 97), api.ErrRule},
	)
}

// P10.2, P10.7: an entry is struck just if all others that stand go without it.
func TestStrike(t *testing.T) {
	wantSteps(t, suiteS(),
		step{strike(0), api.ErrArg},
		step{strike(9999), api.ErrArg},
		step{cut(0, 0, 0), api.OK},
		step{strike(1), api.ErrArg},
		step{take(2, 0, 2), api.OK},
		step{strike(0), api.ErrRule}, // what was taken is not had without it
		step{cut(0, 1, 0), api.OK},
		step{strike(0), api.ErrRule}, // nor before the later blank was cut
		step{strike(1), api.OK},
		step{strike(1), api.ErrRule}, // it does not stand
		step{strike(3), api.ErrArg},  // a strike
		step{strike(0), api.OK},
		step{strike(0), api.ErrRule},
		step{strike(4), api.ErrArg},
		step{strike(2), api.OK},
		step{cut(0, 0, 0), api.OK},
		step{take(2, 0, 2), api.OK},
		step{send(0, 2), api.OK},
		step{strike(7), api.ErrRule}, // what was sent is not polished without it
		step{bring(0, 1), api.OK},
		step{strike(8), api.ErrRule}, // nor out
		step{strike(9), api.OK},
		step{strike(8), api.OK},
		step{strike(7), api.OK},
		step{strike(6), api.OK},
		step{strike(13), api.ErrArg},
		step{strike(14), api.ErrArg},
	)
	// what was sent first may go by what was polished first alone
	wantSteps(t, suiteS(),
		step{cut(0, 0, 0), api.OK},
		step{cut(0, 1, 0), api.OK},
		step{take(2, 0, 1), api.OK},
		step{send(0, 1), api.OK},
		step{take(0, 2, 3), api.OK},
		step{strike(2), api.ErrRule},
		step{strike(1), api.ErrRule},
		step{strike(4), api.OK},
		step{strike(1), api.OK},
		step{strike(0), api.ErrRule},
	)
}

// P10.2: an entry that is not formed comes first, then one too many, then one that is not as defined, then one that does not go.
func TestOrderOfErrors(t *testing.T) {
	unformed := []api.ForemanEntry{
		{}, entry(0, 1), entry(7, 1), entry(-1), entry(far, 1), entry(-far-1, 1), entry(api.ForemanCut), entry(api.ForemanCut, 0, 0), entry(api.ForemanCut, 0, 0, 0, 0),
		entry(api.ForemanTake, 0, 1), entry(api.ForemanSend, 0), entry(api.ForemanBring, 0, 1, 1), entry(api.ForemanFind, 1), entry(api.ForemanStrike), entry(api.ForemanStrike, 0, 0),
		cut(-1, 0, 0), cut(0, -1, 0), cut(0, 0, -1), cut(10000, 0, 0), cut(0, far, 0), take(0, 2, 10000), send(0, -1), bring(0, -far-1), find(-1, 0), strike(-1), strike(10000),
		{Kind: api.ForemanCut, Numbers: make([]int, 100000)},
	}
	d := opened(t, suiteS())
	for _, x := range unformed {
		wantError(t, "an entry that is not formed", d.Enter(x), api.ErrArg)
	}
	for n := range 12 {
		for _, x := range []api.ForemanEntry{cut(0, 1, 0), strike(2 * n)} {
			wantError(t, "one of 24 entries", d.Enter(x), api.OK)
		}
	}
	journal, _ := d.Journal()
	for _, x := range []api.ForemanEntry{cut(0, 1, 0), cut(0, 1, 9), cut(0, 3, 0), take(9, 9, 9), send(0, 0), bring(0, 1), find(1, 9), find(256, 9), strike(0), strike(1), strike(24)} {
		wantError(t, "the entry 25", d.Enter(x), api.ErrLong)
	}
	for _, x := range unformed {
		wantError(t, "an entry that is not formed", d.Enter(x), api.ErrArg)
	}
	if now, e := d.Journal(); e != api.OK || now != journal {
		t.Errorf("%q, error %d, want %q", now, e, journal)
	}
}

// P10.2, P10.3: entries and questions by chance have the errors and answers of the definitions; with an error, nothing changes.
func TestEnterByChance(t *testing.T) {
	d := dice(2)
	made := map[api.ForemanKind]int{}
	ruled := map[api.ForemanKind]int{}
	errors := map[api.Errno]int{}
	for range 200 {
		session(t, &d, worldBy(&d).suite, 150, func(desk *foreman.Desk, l *ledger, x api.ForemanEntry, e api.Errno) {
			errors[e]++
			switch e {
			case api.OK:
				made[x.Kind]++
			case api.ErrRule:
				ruled[x.Kind]++
			}
			if e == api.OK || d.upTo(9) == 0 {
				wantLedger(t, desk, l)
			}
		})
	}
	for k := api.ForemanCut; k <= api.ForemanStrike; k++ {
		if made[k] < 200 || ruled[k] < 200 {
			t.Errorf("%v, %v", made, ruled)
		}
	}
	if errors[api.ErrArg] < 500 || errors[api.ErrLong] < 200 {
		t.Errorf("%v", errors)
	}
}

// P10.4: what was cut is a cutting, which gives at least as many slices as were had, whatever is true of the shell.
func TestShells(t *testing.T) {
	d := dice(3)
	more, cuts := 0, 0
	for range 400 {
		w := worldBy(&d)
		session(t, &d, w.suite, 20, func(desk *foreman.Desk, l *ledger, x api.ForemanEntry, e api.Errno) {
			if e != api.OK || x.Kind != api.ForemanCut {
				return
			}
			blanks := blanksOf(l.standing(-1))
			slices.SortFunc(blanks, func(a, b api.ShellBlank) int { return 100*(a.Row-b.Row) + a.Column - b.Column })
			worth, f := shell.Run(w.suite.Work, blanks, w.thick)
			asked, g := desk.Ask(question(api.ForemanWorth))
			if f != api.OK || g != api.OK || worth < asked[0] || worth > asked[1] {
				t.Fatalf("%v: %v is worth %d, error %d; the answer is %v, error %d", w.suite.Work, blanks, worth, f, asked, g)
			}
			given := 0
			for _, b := range blanks {
				given += givenBy(w, b)
			}
			had, g := desk.Ask(question(api.ForemanSlices))
			if g != api.OK || given < had[0] {
				t.Fatalf("%v: %v gives %d, less than %v, error %d", w.suite.Work, blanks, given, had, g)
			}
			cuts++
			if given > had[0] {
				more++
			}
		})
	}
	if cuts < 400 || more < 100 {
		t.Errorf("%d of %d give more", more, cuts)
	}
}

// givenBy returns how many slices a blank gives in truth.
func givenBy(w world, b api.ShellBlank) int {
	tube := w.suite.Work.Tubes[b.Tube]
	least := 60
	for row := range tube.Width {
		for column := range tube.Width {
			least = min(least, w.thick[b.Row+row][b.Column+column])
		}
	}
	return (least + w.suite.Work.Kerf) / (tube.Need + w.suite.Work.Kerf)
}

// P10.4: each batch was smooth and thick enough when it was taken, whatever is true of the drum.
func TestDrums(t *testing.T) {
	d := dice(4)
	taken := 0
	for range 400 {
		w := worldBy(&d)
		session(t, &d, w.suite, 30, func(desk *foreman.Desk, l *ledger, x api.ForemanEntry, e api.Errno) {
			if e != api.OK || x.Kind != api.ForemanTake {
				return
			}
			states, f := drum.Run(w.suite.Drum, w.strength, x.Numbers[1])
			b := w.suite.Drum.Batches[x.Numbers[0]]
			state := states[x.Numbers[0]]
			if f != api.OK || state.Rough > b.Goal || state.Thick < b.Least {
				t.Fatalf("%v: %v is %v, error %d", w.suite.Drum, x, state, f)
			}
			taken++
		})
	}
	if taken < 200 {
		t.Errorf("%d were taken", taken)
	}
}

// P10.5: no more is polished than was had, sent than was polished, brought than was sent, in all and at each house;
// a house was paid for each gross that it brought with what was kept, and no more.
func TestButtons(t *testing.T) {
	d := dice(5)
	paid := 0
	for range 300 {
		s := worldBy(&d).suite
		session(t, &d, s, 60, func(desk *foreman.Desk, l *ledger, x api.ForemanEntry, e api.Errno) {
			sums, f := desk.Ask(question(api.ForemanSlices))
			if f != api.OK || len(sums) != 4 || sums[0] < sums[1] || sums[1] < sums[2] || sums[2] < sums[3] || sums[3] < 0 {
				t.Fatalf("%q: %v, error %d", l.journal(), sums, f)
			}
			out := 0
			for house, kept := range s.Kept {
				due, f := desk.Ask(question(api.ForemanDue, house))
				brought := many(l.standing(-1), api.ForemanBring, house)
				if f != api.OK || len(due) != 3 || due[1] < 0 || due[1] > 143 || due[2] < 0 {
					t.Fatalf("%q: %v at %d, error %d", l.journal(), due, house, f)
				}
				grosses := (kept + brought - due[1]) / 144
				if kept+brought != 144*grosses+due[1] || due[0] != grosses*s.Rate {
					t.Fatalf("%q: %v at %d, which had %d and brought %d", l.journal(), due, house, kept, brought)
				}
				out += due[2]
				if due[0] > 0 {
					paid++
				}
			}
			if out != sums[2]-sums[3] {
				t.Fatalf("%q: %d are out, of %v", l.journal(), out, sums)
			}
		})
	}
	if paid < 100 {
		t.Errorf("paid %d times", paid)
	}
}

// P10.7: after a strike, all questions but stands are answered as at a desk at which just the entries that stand were made.
func TestAfterStrikes(t *testing.T) {
	d := dice(6)
	strikes := 0
	for range 400 {
		s := worldBy(&d).suite
		session(t, &d, s, 45, func(desk *foreman.Desk, l *ledger, x api.ForemanEntry, e api.Errno) {
			if e != api.OK || x.Kind != api.ForemanStrike {
				return
			}
			strikes++
			other := opened(t, s, l.standing(-1)...)
			got, want := answers(desk, s, api.ForemanStands), answers(other, s, api.ForemanStands)
			for i := range want {
				if !slices.Equal(got[i], want[i]) {
					t.Fatalf("%q: %v, want %v", l.journal(), got[i], want[i])
				}
			}
		})
	}
	if strikes < 200 {
		t.Errorf("%d strikes", strikes)
	}
}
