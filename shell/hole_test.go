package shell_test

import (
	"math"
	"slices"
	"testing"

	"nacre/api"
	"nacre/shell"
)

// P1.6: Spoilt returns what is left of a cutting; the chapter's example among others.
func TestSpoilt(t *testing.T) {
	many := exampleWork()
	many.Map.Hidden = 3
	open := exampleWork()
	open.Map.Hidden, open.Map.Probed = 3, nil
	for name, x := range map[string]struct {
		w     api.ShellWork
		holes []api.ShellPlace
		n     int
	}{
		"at 0 2":                {exampleWork(), []api.ShellPlace{place(0, 2)}, 22},
		"at 0 1":                {exampleWork(), []api.ShellPlace{place(0, 1)}, 20},
		"none":                  {exampleWork(), nil, 24},
		"beside all blanks":     {exampleWork(), []api.ShellPlace{place(1, 0)}, 24},
		"two":                   {many, []api.ShellPlace{place(0, 2), place(0, 1)}, 18},
		"three":                 {many, []api.ShellPlace{place(0, 2), place(0, 1), place(2, 1)}, 18},
		"twice the same":        {many, []api.ShellPlace{place(0, 1), place(0, 1)}, 20},
		"in the wide one":       {open, []api.ShellPlace{place(1, 2)}, 10},
		"in its last cell":      {open, []api.ShellPlace{place(2, 3)}, 10},
		"twice in the wide one": {open, []api.ShellPlace{place(1, 3), place(2, 2)}, 10},
		"where it was probed":   {open, []api.ShellPlace{place(0, 0)}, 20},
		"all of it but one":     {open, []api.ShellPlace{place(0, 0), place(0, 1), place(2, 3)}, 2},
	} {
		n, e := shell.Spoilt(x.w, exampleCutting(), x.holes)
		if e != api.OK || n != x.n {
			t.Errorf("%s: %d, error %d", name, n, e)
		}
	}
	for name, holes := range map[string][]api.ShellPlace{
		"probed":          {place(0, 0)},
		"a worm hole":     {place(1, 1)},
		"outside":         {place(0, 3)},
		"below the map":   {place(3, 0)},
		"left of the map": {place(0, -1)},
		"far away":        {place(math.MaxInt, math.MinInt)},
		"two":             {place(0, 1), place(0, 2)},
		"one twice":       {place(0, 1), place(0, 1)},
	} {
		n, e := shell.Spoilt(exampleWork(), exampleCutting(), holes)
		wantError(t, name, e, api.ErrArg, n)
	}
	n, e := shell.Spoilt(many, exampleCutting(), []api.ShellPlace{place(0, 1), place(0, 2), place(2, 2)})
	wantError(t, "the last one probed", e, api.ErrArg, n)
	n, e = shell.Spoilt(tornWork(), nil, []api.ShellPlace{place(0, 0)})
	wantError(t, "torn", e, api.ErrRule, n)
	n, e = shell.Spoilt(tornWork(), nil, []api.ShellPlace{place(0, 2)})
	wantError(t, "torn, and no holes", e, api.ErrArg, n)
	for name, cutting := range badCuttings() {
		n, e := shell.Spoilt(exampleWork(), cutting, nil)
		wantError(t, name, e, api.ErrArg, n)
	}
	for name, change := range badWorks() {
		w := exampleWork()
		change(&w)
		n, e := shell.Spoilt(w, nil, nil)
		wantError(t, name, e, api.ErrArg, n)
	}
}

// P1.6: Sound returns what a cutting is worth wherever holes are; the chapter's example among others.
func TestSound(t *testing.T) {
	for hidden, want := range []int{24, 20, 18, 18} {
		w := exampleWork()
		w.Map.Hidden = hidden
		if n, e := shell.Sound(w, exampleCutting()); e != api.OK || n != want {
			t.Errorf("%d holes: %d, error %d, want %d", hidden, n, e, want)
		}
	}
	// one cell of the wide blank that was not probed is enough
	w := exampleWork()
	w.Map.Probed = w.Map.Probed[:4]
	if n, e := shell.Sound(w, exampleCutting()); e != api.OK || n != 10 {
		t.Errorf("%d, error %d", n, e)
	}
	if n, e := shell.Sound(exampleWork(), nil); e != api.OK || n != 0 {
		t.Errorf("%d, error %d", n, e)
	}
	n, e := shell.Sound(tornWork(), nil)
	wantError(t, "torn", e, api.ErrRule, n)
	n, e = shell.Sound(tornWork(), []api.ShellBlank{blank(0, 2, 0)})
	wantError(t, "torn, and no cutting", e, api.ErrArg, n)
	for name, cutting := range badCuttings() {
		n, e := shell.Sound(exampleWork(), cutting)
		wantError(t, name, e, api.ErrArg, n)
	}
	for name, change := range badWorks() {
		w := exampleWork()
		change(&w)
		n, e := shell.Sound(w, nil)
		wantError(t, name, e, api.ErrArg, n)
	}
}

// P1.6: wherever holes are, a cutting is worth no less than Sound returns, and somewhere no more.
func TestHolesAnywhere(t *testing.T) {
	d := dice(10)
	spoilt := 0
	for range 300 {
		w := workBy(&d, d.from(1, 4), d.from(1, 4))
		cutting := somehow(&d, w)
		if d.upTo(3) == 0 {
			cutting, _ = pack(t, w)
		}
		least := leastTruth(w.Map)
		worst := math.MaxInt
		for _, holes := range allHoles(w.Map) {
			want := worthIn(w, whole(w, cutting, holes), least)
			worst = min(worst, want)
			if n, e := shell.Spoilt(w, cutting, holes); e != api.OK || n != want {
				t.Fatalf("%v %v %v: %d, error %d, want %d", w, cutting, holes, n, e, want)
			}
		}
		if worst < worthIn(w, cutting, least) {
			spoilt++
		}
		if n, e := shell.Sound(w, cutting); e != api.OK || n != worst {
			t.Fatalf("%v %v: %d, error %d, want %d", w, cutting, n, e, worst)
		}
	}
	if spoilt < 50 {
		t.Errorf("only %d cuttings are spoilt", spoilt)
	}
}

// somehow returns a cutting by chance.
func somehow(d *dice, w api.ShellWork) []api.ShellBlank {
	var cutting []api.ShellBlank
	for _, b := range allBlanks(w) {
		if d.upTo(1) == 0 && !slices.ContainsFunc(cutting, func(a api.ShellBlank) bool { return !goTogether(w, a, b) }) {
			cutting = append(cutting, b)
		}
	}
	return cutting
}

// whole returns the blanks of a cutting without a hole.
func whole(w api.ShellWork, cutting []api.ShellBlank, holes []api.ShellPlace) []api.ShellBlank {
	return slices.DeleteFunc(slices.Clone(cutting), func(b api.ShellBlank) bool {
		return slices.ContainsFunc(cellsOf(w, b), func(p api.ShellPlace) bool { return slices.Contains(holes, p) })
	})
}

// allHoles returns all places that at most Hidden holes can have.
func allHoles(m api.ShellMap) [][]api.ShellPlace {
	var free []api.ShellPlace
	for row, cells := range m.Cells {
		for column, cell := range cells {
			if p := place(row, column); cell == api.ShellSolid && !slices.Contains(m.Probed, p) {
				free = append(free, p)
			}
		}
	}
	found := [][]api.ShellPlace{nil}
	var try func(from int, holes []api.ShellPlace)
	try = func(from int, holes []api.ShellPlace) {
		if len(holes) == m.Hidden {
			return
		}
		for i := from; i < len(free); i++ {
			more := append(slices.Clone(holes), free[i])
			found = append(found, more)
			try(i+1, more)
		}
	}
	try(0, nil)
	return found
}
