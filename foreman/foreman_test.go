package foreman_test

import (
	"testing"

	"nacre/api"
	"nacre/foreman"
)

// P10.1: Check and Open take a suite that is as defined, and possible.
func TestCheck(t *testing.T) {
	good := map[string]api.ForemanSuite{
		"s": suiteS(), "bare": bareSuite(), "full": fullSuite(),
		"a Rate of 0":    changed(func(s *api.ForemanSuite) { s.Rate = 0 }),
		"a Rate of 1000": changed(func(s *api.ForemanSuite) { s.Rate = 1000 }),
		"a house":        changed(func(s *api.ForemanSuite) { s.Kept = list(143) }),
		"4 houses":       changed(func(s *api.ForemanSuite) { s.Kept = list(0, 143, 0, 143) }),
		"the book c":     changed(func(s *api.ForemanSuite) { s.Book.Miss = 0 }),
		"a strip of 60":  changed(func(s *api.ForemanSuite) { s.Drum.Strips[0].Seen = 60 }),
	}
	for name, s := range good {
		wantError(t, name, foreman.Check(s), api.OK)
		d, e := foreman.Open(s)
		if e != api.OK || d == nil {
			t.Fatalf("%s: no desk, error %d", name, e)
		}
		wantLedger(t, d, newLedger(s))
	}
	for name, s := range badSuites() {
		wantError(t, name, foreman.Check(s), api.ErrArg)
		d, e := foreman.Open(s)
		wantError(t, name, e, api.ErrArg, d)
		d, at, e := foreman.Replay(s, "cut 0 0 0\n")
		wantError(t, name, e, api.ErrArg, d, at)
		answers, e := foreman.Console(s, "stands\n")
		wantError(t, name, e, api.ErrArg, answers)
	}
}

// P10.1: suites by chance are as defined, and possible, since they have a truth.
func TestCheckByChance(t *testing.T) {
	d := dice(1)
	for range 300 {
		w := worldBy(&d)
		wantError(t, "a world", foreman.Check(w.suite), api.OK)
	}
}

// A nil Desk, and one that neither Open nor Replay made, answer ErrNil, whatever the arguments are.
func TestNoDesk(t *testing.T) {
	for name, d := range map[string]*foreman.Desk{"a nil Desk": nil, "a zero Desk": new(foreman.Desk)} {
		for range 2 {
			for _, x := range []api.ForemanEntry{{}, cut(0, 0, 0), strike(0), send(0, 0), find(9999, 9999)} {
				wantError(t, name, d.Enter(x), api.ErrNil)
			}
			for _, q := range questions(suiteS()) {
				answer, e := d.Ask(q)
				wantError(t, name, e, api.ErrNil, answer)
			}
			journal, e := d.Journal()
			wantError(t, name, e, api.ErrNil, journal)
		}
	}
}
