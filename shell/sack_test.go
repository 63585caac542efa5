package shell_test

import (
	"math"
	"slices"
	"testing"

	"nacre/api"
	"nacre/shell"
)

// exampleSack returns the sack s of the chapter.
func exampleSack() api.ShellSack {
	return api.ShellSack{Shells: 5, Sorts: []api.ShellSort{{Blanks: 2, Weight: span(3, 4)}, {Blanks: 6, Weight: span(7, 9)}}, Seen: []int{1, 1}, Weight: 27, Off: 1}
}

// sackWith returns the chapter's sack with a change.
func sackWith(change func(*api.ShellSack)) api.ShellSack {
	s := exampleSack()
	change(&s)
	return s
}

// lightSack returns a sack that is not possible: its shells weigh more.
func lightSack() api.ShellSack { return sackWith(func(s *api.ShellSack) { s.Weight = 5 }) }

// badSacks returns changes after which the chapter's sack is not as defined, by what is wrong.
func badSacks() map[string]func(*api.ShellSack) {
	return map[string]func(*api.ShellSack){
		"no shells":           func(s *api.ShellSack) { s.Shells, s.Seen = 0, []int{0, 0} },
		"11 shells":           func(s *api.ShellSack) { s.Shells = 11 },
		"no sorts":            func(s *api.ShellSack) { s.Sorts, s.Seen = nil, nil },
		"4 sorts":             func(s *api.ShellSack) { s.Sorts, s.Seen = slices.Repeat(s.Sorts, 2), []int{0, 0, 0, 0} },
		"seen of one only":    func(s *api.ShellSack) { s.Seen = []int{1} },
		"seen of three":       func(s *api.ShellSack) { s.Seen = []int{1, 1, 0} },
		"seen -1":             func(s *api.ShellSack) { s.Seen = []int{1, -1} },
		"6 seen of one":       func(s *api.ShellSack) { s.Seen = []int{6, 0} },
		"6 seen of both":      func(s *api.ShellSack) { s.Seen = []int{3, 3} },
		"far too many seen":   func(s *api.ShellSack) { s.Seen = []int{math.MaxInt, math.MaxInt} },
		"blanks -1":           func(s *api.ShellSack) { s.Sorts[1].Blanks = -1 },
		"blanks 21":           func(s *api.ShellSack) { s.Sorts[1].Blanks = 21 },
		"a stone from 0":      func(s *api.ShellSack) { s.Sorts[1].Weight = span(0, 9) },
		"a stone to 101":      func(s *api.ShellSack) { s.Sorts[1].Weight = span(7, 101) },
		"a stone turned":      func(s *api.ShellSack) { s.Sorts[1].Weight = span(9, 7) },
		"a stone far too big": func(s *api.ShellSack) { s.Sorts[1].Weight = span(101, 101) },
		"weight -1":           func(s *api.ShellSack) { s.Weight = -1 },
		"weight 1001":         func(s *api.ShellSack) { s.Weight = 1001 },
		"off -1":              func(s *api.ShellSack) { s.Off = -1 },
		"off 101":             func(s *api.ShellSack) { s.Off = 101 },
	}
}

// P1.7: Sack returns ErrArg for a sack that is not as defined, or OK; with ErrArg, the other calls return nothing else.
func TestSack(t *testing.T) {
	for name, change := range badSacks() {
		s := sackWith(change)
		wantError(t, name, shell.Sack(s), api.ErrArg)
		is, e := shell.Holds(s, slices.Clone(s.Seen))
		wantError(t, name, e, api.ErrArg, is)
		sorts, e := shell.Sorts(s)
		wantError(t, name, e, api.ErrArg, sorts)
		total, e := shell.Total(s)
		wantError(t, name, e, api.ErrArg, total)
		looks, e := shell.Looks(s, 20)
		wantError(t, name, e, api.ErrArg, looks)
	}
	for name, change := range map[string]func(*api.ShellSack){
		"as it is":     func(*api.ShellSack) {},
		"all seen":     func(s *api.ShellSack) { s.Seen = []int{2, 3} },
		"one shell":    func(s *api.ShellSack) { s.Shells, s.Seen = 1, []int{0, 0} },
		"10 shells":    func(s *api.ShellSack) { s.Shells = 10 },
		"3 sorts":      func(s *api.ShellSack) { s.Sorts, s.Seen = append(s.Sorts, s.Sorts[0]), []int{0, 0, 5} },
		"one sort":     func(s *api.ShellSack) { s.Sorts, s.Seen = s.Sorts[:1], []int{0} },
		"no blanks":    func(s *api.ShellSack) { s.Sorts[0].Blanks = 0 },
		"20 blanks":    func(s *api.ShellSack) { s.Sorts[0].Blanks = 20 },
		"any stone":    func(s *api.ShellSack) { s.Sorts[0].Weight = span(1, 100) },
		"least":        func(s *api.ShellSack) { s.Weight, s.Off = 0, 0 },
		"most":         func(s *api.ShellSack) { s.Weight, s.Off = 1000, 100 },
		"not possible": func(s *api.ShellSack) { *s = lightSack() },
	} {
		wantError(t, name, shell.Sack(sackWith(change)), api.OK)
	}
}

// P1.7: Holds reports whether numbers of shells are a truth.
func TestHolds(t *testing.T) {
	for _, x := range []struct {
		shells []int
		want   bool
		e      api.Errno
	}{
		{[]int{2, 3}, true, api.OK},
		{[]int{3, 2}, true, api.OK},
		{[]int{1, 4}, false, api.OK}, // at least 31
		{[]int{4, 1}, false, api.OK}, // at most 25
		{[]int{0, 5}, false, api.OK},
		{[]int{2, 4}, false, api.OK},
		{[]int{2, 2}, false, api.OK},
		{[]int{0, 0}, false, api.OK},
		{[]int{6, 0}, false, api.ErrArg},
		{[]int{0, 6}, false, api.ErrArg},
		{[]int{-1, 5}, false, api.ErrArg},
		{[]int{5, math.MinInt}, false, api.ErrArg},
		{[]int{math.MaxInt, math.MaxInt}, false, api.ErrArg},
		{[]int{5}, false, api.ErrArg},
		{[]int{2, 3, 0}, false, api.ErrArg},
		{nil, false, api.ErrArg},
	} {
		if is, e := shell.Holds(exampleSack(), x.shells); is != x.want || e != x.e {
			t.Errorf("%v: %v, error %d", x.shells, is, e)
		}
	}
	seen := sackWith(func(s *api.ShellSack) { s.Seen = []int{3, 1} })
	if is, e := shell.Holds(seen, []int{2, 3}); is || e != api.OK {
		t.Errorf("fewer than were seen: %v, error %d", is, e)
	}
	// just as heavy as can be, and just as light, and by one beyond
	for weight, want := range map[int]bool{25: false, 26: true, 36: true, 37: false} {
		s := sackWith(func(s *api.ShellSack) { s.Weight = weight })
		if is, e := shell.Holds(s, []int{2, 3}); is != want || e != api.OK {
			t.Errorf("2 and 3 weigh 27 to 35, seen %d off by 1: %v, error %d", weight, is, e)
		}
	}
	if is, e := shell.Holds(lightSack(), []int{2, 3}); is || e != api.OK {
		t.Errorf("a sack that is not possible: %v, error %d", is, e)
	}
}

// P1.7: Sorts and Total return the ends over all truths; the chapter's examples among others.
func TestSortsTotal(t *testing.T) {
	for name, x := range map[string]struct {
		change func(*api.ShellSack)
		sorts  []api.Span
		total  api.Span
	}{
		"the chapter's": {func(*api.ShellSack) {}, []api.Span{span(2, 3), span(2, 3)}, span(18, 22)},
		"all seen":      {func(s *api.ShellSack) { s.Seen = []int{2, 3} }, []api.Span{span(2, 2), span(3, 3)}, span(22, 22)},
		"off by 2":      {func(s *api.ShellSack) { s.Off = 2 }, []api.Span{span(2, 4), span(1, 3)}, span(14, 22)},
		"off by 100":    {func(s *api.ShellSack) { s.Off = 100 }, []api.Span{span(1, 4), span(1, 4)}, span(14, 26)},
		"three sorts": {func(s *api.ShellSack) {
			s.Sorts, s.Seen = append(s.Sorts, api.ShellSort{Blanks: 20, Weight: span(1, 1)}), []int{0, 0, 0}
		}, []api.Span{span(0, 3), span(2, 3), span(0, 2)}, span(18, 58)},
	} {
		s := sackWith(x.change)
		if got, e := shell.Sorts(s); e != api.OK || !slices.Equal(got, x.sorts) {
			t.Errorf("%s: sorts %v, error %d", name, got, e)
		}
		if got, e := shell.Total(s); e != api.OK || got != x.total {
			t.Errorf("%s: total %v, error %d", name, got, e)
		}
	}
	sorts, e := shell.Sorts(lightSack())
	wantError(t, "light", e, api.ErrRule, sorts)
	total, e := shell.Total(lightSack())
	wantError(t, "light", e, api.ErrRule, total)
	heavy := sackWith(func(s *api.ShellSack) { s.Weight = 1000 })
	total, e = shell.Total(heavy)
	wantError(t, "heavy", e, api.ErrRule, total)
}

// sackBy returns a sack by chance, which need not be possible.
func sackBy(d *dice) api.ShellSack {
	s := api.ShellSack{Shells: d.from(1, 6), Off: d.upTo(6)}
	left, weight := s.Shells, 0
	for range d.from(1, api.ShellSorts) {
		low := d.from(1, 9)
		sort := api.ShellSort{Blanks: d.upTo(5), Weight: span(low, d.from(low, low+3))}
		n := d.upTo(min(left, 2))
		left -= n
		weight += n * low
		s.Sorts, s.Seen = append(s.Sorts, sort), append(s.Seen, n)
	}
	s.Weight = weight + left*d.from(1, 9) + d.upTo(4)
	return s
}

// weighs reports whether shells can weigh something together, by trying what each one weighs.
func weighs(s api.ShellSack, shells []int) bool {
	sums := map[int]bool{0: true}
	for sort, many := range shells {
		for range many {
			more := map[int]bool{}
			for n := range sums {
				for w := s.Sorts[sort].Weight.Low; w <= s.Sorts[sort].Weight.High; w++ {
					more[n+w] = true
				}
			}
			sums = more
		}
	}
	for n := range sums {
		if n >= s.Weight-s.Off && n <= s.Weight+s.Off {
			return true
		}
	}
	return false
}

// allShells returns all truths of a sack, by trying.
func allShells(s api.ShellSack) [][]int {
	var found [][]int
	shells := make([]int, len(s.Sorts))
	var try func(sort, left int)
	try = func(sort, left int) {
		if sort == len(shells) {
			if left == 0 && weighs(s, shells) {
				found = append(found, slices.Clone(shells))
			}
			return
		}
		for n := s.Seen[sort]; n <= left; n++ {
			shells[sort] = n
			try(sort+1, left-n)
		}
	}
	try(0, s.Shells)
	return found
}

// blanksIn returns how many blanks a sack has in a truth.
func blanksIn(s api.ShellSack, shells []int) int {
	total := 0
	for sort, n := range shells {
		total += n * s.Sorts[sort].Blanks
	}
	return total
}

// P1.7: whatever is true, numbers lie within their bounds, and each end is reached.
func TestSacksOfAllTruths(t *testing.T) {
	d := dice(11)
	light := 0
	for range 800 {
		s := sackBy(&d)
		if e := shell.Sack(s); e != api.OK {
			t.Fatal(s, e)
		}
		truths := allShells(s)
		sorts, e := shell.Sorts(s)
		total, f := shell.Total(s)
		if len(truths) == 0 {
			light++
			wantError(t, "light by chance", e, api.ErrRule, sorts)
			wantError(t, "light by chance", f, api.ErrRule, total)
			continue
		}
		want := span(math.MaxInt, 0)
		for _, shells := range truths {
			n := blanksIn(s, shells)
			want = span(min(want.Low, n), max(want.High, n))
		}
		if f != api.OK || total != want {
			t.Fatalf("%v: total %v, error %d, want %v", s, total, f, want)
		}
		for sort := range s.Sorts {
			want := span(math.MaxInt, 0)
			for _, shells := range truths {
				want = span(min(want.Low, shells[sort]), max(want.High, shells[sort]))
			}
			if e != api.OK || len(sorts) != len(s.Sorts) || sorts[sort] != want {
				t.Fatalf("%v: sorts %v, error %d, want %v at %d", s, sorts, e, want, sort)
			}
		}
		for range 5 {
			shells := slices.Clone(truths[d.upTo(len(truths)-1)])
			shells[d.upTo(len(shells)-1)] = d.upTo(s.Shells)
			is, e := shell.Holds(s, shells)
			want := slices.ContainsFunc(truths, func(x []int) bool { return slices.Equal(x, shells) })
			if e != api.OK || is != want {
				t.Fatalf("%v holds %v: %v, error %d", s, shells, is, e)
			}
		}
	}
	if light < 50 || light > 600 {
		t.Errorf("%d of 800 sacks are not possible", light)
	}
}

// P1.8: Looks returns the looks that are needed; the chapter's examples among others.
func TestLooks(t *testing.T) {
	for name, x := range map[string]struct {
		s      api.ShellSack
		blanks int
		n      int
	}{
		"20":             {exampleSack(), 20, 3},
		"19":             {exampleSack(), 19, 3},
		"as many":        {exampleSack(), 22, 3},
		"at least":       {exampleSack(), 18, 0},
		"more":           {exampleSack(), 23, 0},
		"none":           {exampleSack(), 0, 0},
		"200":            {exampleSack(), 200, 0},
		"two of both":    {sackWith(func(s *api.ShellSack) { s.Seen = []int{2, 2} }), 20, 1},
		"two of one":     {sackWith(func(s *api.ShellSack) { s.Seen = []int{1, 2} }), 20, 2},
		"three of one":   {sackWith(func(s *api.ShellSack) { s.Seen = []int{3, 1} }), 20, 0},
		"all seen":       {sackWith(func(s *api.ShellSack) { s.Seen = []int{3, 2} }), 20, 0},
		"sorts alike":    {sackWith(func(s *api.ShellSack) { s.Sorts[0] = s.Sorts[1]; s.Weight = 40 }), 30, 0},
		"all that are":   {api.ShellSack{Shells: 10, Sorts: []api.ShellSort{{Blanks: 1, Weight: span(1, 9)}, {Blanks: 0, Weight: span(1, 9)}}, Seen: []int{0, 0}, Weight: 40}, 10, 10},
		"about a half":   {api.ShellSack{Shells: 10, Sorts: []api.ShellSort{{Blanks: 1, Weight: span(1, 9)}, {Blanks: 0, Weight: span(1, 9)}}, Seen: []int{0, 0}, Weight: 40}, 5, 10},
		"one that isn't": {api.ShellSack{Shells: 10, Sorts: []api.ShellSort{{Blanks: 1, Weight: span(1, 9)}, {Blanks: 0, Weight: span(1, 9)}}, Seen: []int{0, 1}, Weight: 40}, 10, 0},
	} {
		if n, e := shell.Looks(x.s, x.blanks); e != api.OK || n != x.n {
			t.Errorf("%s: %d, error %d", name, n, e)
		}
	}
	for _, blanks := range []int{-1, 201, math.MinInt, math.MaxInt} {
		n, e := shell.Looks(exampleSack(), blanks)
		wantError(t, "blanks out of range", e, api.ErrArg, n)
		n, e = shell.Looks(lightSack(), blanks)
		wantError(t, "light, and blanks out of range", e, api.ErrArg, n)
	}
	for _, blanks := range []int{0, 20, 200} {
		n, e := shell.Looks(lightSack(), blanks)
		wantError(t, "light", e, api.ErrRule, n)
	}
}

// isKnown reports whether it is known of a possible sack whether it has some number of blanks.
func isKnown(s api.ShellSack, truths [][]int, blanks int) bool {
	first := blanksIn(s, truths[0]) >= blanks
	return !slices.ContainsFunc(truths, func(shells []int) bool { return blanksIn(s, shells) >= blanks != first })
}

// knownAfter reports whether it is known after some looks, whatever the shells are that are looked at.
func knownAfter(s api.ShellSack, looks, blanks int) bool {
	truths := allShells(s)
	if len(truths) == 0 || isKnown(s, truths, blanks) {
		return true
	}
	if looks == 0 {
		return false
	}
	for sort := range s.Sorts {
		next := s
		next.Seen = slices.Clone(s.Seen)
		next.Seen[sort]++
		if !knownAfter(next, looks-1, blanks) {
			return false
		}
	}
	return true
}

// P1.8: after as many looks it is known, and with one look less it is not, for some shells.
func TestLooksAreNeeded(t *testing.T) {
	d := dice(12)
	several := 0
	for range 1000 {
		s := sackBy(&d)
		s.Shells = min(s.Shells, 5)
		if shell.Sack(s) != api.OK || len(allShells(s)) == 0 {
			continue
		}
		total, _ := shell.Total(s)
		blanks := min(d.from(total.Low, total.High+1), 200)
		n, e := shell.Looks(s, blanks)
		if e != api.OK || !knownAfter(s, n, blanks) || n > 0 && knownAfter(s, n-1, blanks) {
			t.Fatalf("%v %d: %d looks, error %d", s, blanks, n, e)
		}
		if n > 1 {
			several++
		}
	}
	if several < 50 {
		t.Errorf("only %d sacks need several looks", several)
	}
}
