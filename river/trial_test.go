package river_test

import (
	"slices"
	"testing"

	"nacre/api"
	"nacre/river"
)

// P8.4: Tests of sacks with the book b, the chapter's examples among others.
func TestTestsOfB(t *testing.T) {
	three := sack(shellU(), shellU(), shellU())
	four := sack(shellU(), shellU(), shellU(), shellU())
	full := three
	full.Tests = slices.Repeat([]api.RiverTest{{Shell: 1, Closed: true}}, api.RiverTests)
	for name, x := range map[string]struct {
		s                  api.RiverSack
		many, shell, tests int
		e                  api.Errno
	}{
		"t u v, 2":               {mixed(), 2, 1, 1, api.OK},
		"t u v, 1":               {mixed(), 1, 0, 0, api.ErrNone},
		"t u v, 0":               {mixed(), 0, 0, 0, api.ErrNone},
		"t u v, 3":               {mixed(), 3, 0, 0, api.ErrNone},
		"t u v, 4":               {mixed(), 4, 0, 0, api.ErrNone},
		"u, 1":                   {sack(shellU()), 1, 0, 1, api.OK},
		"u, 2":                   {sack(shellU()), 2, 0, 0, api.ErrNone},
		"three of u, 1":          {three, 1, 0, 3, api.OK},
		"three of u, 2":          {three, 2, 0, 3, api.OK},
		"three of u, 3":          {three, 3, 0, 3, api.OK},
		"three of u, 4":          {three, 4, 0, 0, api.ErrNone},
		"four of u, 4":           {four, 4, 0, 4, api.OK},
		"one is closed, 2":       {tested(three, 0, true), 2, 1, 2, api.OK},
		"one is not, 2":          {tested(three, 0, false), 2, 1, 2, api.OK},
		"one is closed, 1":       {tested(three, 0, true), 1, 0, 0, api.ErrNone},
		"another is closed, 2":   {tested(three, 1, true), 2, 0, 2, api.OK},
		"two are closed, 2":      {tested(tested(three, 2, true), 0, true), 2, 0, 0, api.ErrNone},
		"two are closed, 3":      {tested(tested(three, 2, true), 0, true), 3, 1, 1, api.OK},
		"there are 6 tests":      {full, 3, 0, 2, api.OK},
		"30":                     {sack(shell(0, 30)), 1, 0, 0, api.ErrRule},
		"30, 0":                  {sack(shell(0, 30)), 0, 0, 0, api.ErrRule},
		"two tests of a shell":   {tested(tested(three, 0, true), 0, false), 2, 0, 0, api.ErrRule},
		"5":                      {mixed(), 5, 0, 0, api.ErrArg},
		"-1":                     {mixed(), -1, 0, 0, api.ErrArg},
		"far above":              {mixed(), far, 0, 0, api.ErrArg},
		"far below":              {mixed(), -far - 1, 0, 0, api.ErrArg},
		"30, 5: ErrArg is first": {sack(shell(0, 30)), 5, 0, 0, api.ErrArg},
	} {
		n, tests, e := river.Tests(bookB(), x.s, x.many)
		wantError(t, name, e, x.e, n, tests)
		if n != x.shell || tests != x.tests {
			t.Errorf("%s: %d, %d, want %d, %d", name, n, tests, x.shell, x.tests)
		}
	}
	for name, b := range badBooks() {
		n, tests, e := river.Tests(b, mixed(), 2)
		wantError(t, name, e, api.ErrArg, n, tests)
	}
	for name, s := range badSacks() {
		n, tests, e := river.Tests(bookB(), s, 1)
		wantError(t, name, e, api.ErrArg, n, tests)
	}
}

// boundBook returns a book of which the shells 11 and 13 cannot both be from the river 0, in the year 0, which is closed.
func boundBook() api.RiverBook {
	return api.RiverBook{Years: 1, Rivers: []api.RiverRiver{
		{Grow: []api.Span{span(10, 14)}, Closed: 1},
		{Grow: []api.Span{span(10, 14)}},
	}}
}

// P8.4: one shell's test can tell of other shells, so that fewer tests are needed, and a later shell can be the best one.
func TestTestsOfBoundShells(t *testing.T) {
	b := boundBook()
	for name, x := range map[string]struct {
		s                  api.RiverSack
		many, shell, tests int
		e                  api.Errno
	}{
		"two that differ, 1":           {sack(shell(0, 11), shell(0, 13)), 1, 0, 0, api.ErrNone},
		"two that differ, 2":           {sack(shell(0, 11), shell(0, 13)), 2, 0, 0, api.ErrNone},
		"two that are equal, 1":        {sack(shell(0, 11), shell(0, 11)), 1, 0, 2, api.OK},
		"one against two, 2":           {sack(shell(0, 11), shell(0, 13), shell(0, 11)), 2, 0, 1, api.OK},
		"one against three, 2":         {sack(shell(0, 11), shell(0, 13), shell(0, 11), shell(0, 11)), 2, 0, 1, api.OK},
		"two against two, 2":           {sack(shell(0, 11), shell(0, 11), shell(0, 13), shell(0, 13)), 2, 0, 0, api.ErrNone},
		"one more that can be both, 2": {sack(shell(3, 12), shell(0, 11), shell(0, 13)), 2, 0, 1, api.OK},
		"two tell nothing, 2":          {sack(shell(0, 11), shell(0, 13), shell(3, 12)), 2, 2, 1, api.OK},
		"two of four tell nothing, 2":  {sack(shell(0, 11), shell(0, 13), shell(3, 12), shell(3, 12)), 2, 2, 2, api.OK},
	} {
		n, tests, e := river.Tests(b, x.s, x.many)
		wantError(t, name, e, x.e, n, tests)
		if n != x.shell || tests != x.tests {
			t.Errorf("%s: %d, %d, want %d, %d", name, n, tests, x.shell, x.tests)
		}
	}
}

// P8.4: Tests returns what the chapter defines, by going through the truths that are left after each test.
func TestTestsByChance(t *testing.T) {
	d := dice(8)
	later, fewer := 0, 0
	tests := map[int]int{}
	for range 1500 {
		b := []api.RiverBook{bookBy(&d, alike()), bookBy(&d, small()), boundBook()}[d.upTo(2)]
		s, _ := sackBy(&d, b)
		if d.upTo(3) == 0 {
			s = strange(&d, s)
		}
		k := followed(b, s)
		for many := range api.RiverShells + 1 {
			shell, n := needed(k.mixes, many)
			want := api.OK
			if !k.isPossible() {
				want = api.ErrRule
			} else if n == 0 {
				want = api.ErrNone
			}
			gotShell, got, e := river.Tests(b, s, many)
			if e != want || gotShell != shell || got != n {
				t.Fatalf("%v, %v, %d: %d, %d, error %d, want %d, %d, %d", b, s, many, gotShell, got, e, shell, n, want)
			}
			tests[n]++
			if shell > 0 && len(s.Tests) == 0 {
				later++
			}
			if n > 0 && n < uncertain(k.mixes) {
				fewer++
			}
		}
	}
	if later < 20 || fewer < 20 || tests[1] < 20 || tests[2] < 20 || tests[3] < 20 || tests[4] < 20 {
		t.Errorf("a later shell is the best one %d times, fewer tests than shells are needed %d times, tests: %v", later, fewer, tests)
	}
}

// uncertain returns of how many shells it is not known whether they are of closed years.
func uncertain(mixes map[int]bool) int {
	n := 0
	for shell := range api.RiverShells {
		if len(after(mixes, shell, true)) > 0 && len(after(mixes, shell, false)) > 0 {
			n++
		}
	}
	return n
}

// P8.4: the tests that are needed are one more than those that are needed after the best test.
func TestTestsAfterTests(t *testing.T) {
	d := dice(9)
	checked := 0
	for range 1000 {
		b := bookBy(&d, alike())
		s, _ := sackBy(&d, b)
		many := d.from(1, len(s.Shells))
		shell, tests, e := river.Tests(b, s, many)
		if e == api.ErrNone {
			continue
		}
		checked++
		best, fewest := 0, 0
		for n := range s.Shells {
			most, either := 0, true
			for _, closed := range []bool{false, true} {
				after := tested(s, n, closed)
				is, _ := river.Possible(b, after)
				either = either && is
				_, more, _ := river.Tests(b, after, many)
				most = max(most, more+1)
			}
			if either && (fewest == 0 || most < fewest) {
				best, fewest = n, most
			}
		}
		if e != api.OK || shell != best || tests != fewest {
			t.Fatalf("%v, %v, %d: %d, %d, error %d, want %d, %d", b, s, many, shell, tests, e, best, fewest)
		}
	}
	if checked < 300 {
		t.Errorf("%d were checked", checked)
	}
}

// P8.4: whoever tests the best shell, again and again, knows it after as many tests, whatever is true.
func TestTestsWhateverIsTrue(t *testing.T) {
	d := dice(10)
	tight := 0
	for range 500 {
		b := bookBy(&d, alike())
		s, _ := sackBy(&d, b)
		s.Tests = nil
		many := d.from(1, len(s.Shells))
		_, promised, e := river.Tests(b, s, many)
		longest := 0
		for mix := range followed(b, s).mixes {
			asked, tests := s, 0
			for {
				n, _, err := river.Tests(b, asked, many)
				if err == api.ErrNone {
					break
				}
				if err != api.OK || tests > api.RiverShells {
					t.Fatalf("%v, %v, %d: error %d after %d tests", b, asked, many, err, tests)
				}
				asked = tested(asked, n, mix>>n&1 == 1)
				tests++
			}
			closed, err := river.Closed(b, asked)
			if err != api.OK || closed.Low < many && closed.High >= many {
				t.Fatalf("%v, %v: %v is not known, error %d", b, asked, closed, err)
			}
			longest = max(longest, tests)
		}
		if longest != promised {
			t.Fatalf("%v, %v, %d: %d tests, error %d, needed %d", b, s, many, promised, e, longest)
		}
		if longest > 1 {
			tight++
		}
	}
	if tight < 100 {
		t.Errorf("%d needed more than one test", tight)
	}
}
