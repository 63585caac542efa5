package card_test

import (
	"cmp"
	"slices"
	"testing"

	"nacre/api"
	"nacre/card"
)

// altered returns the roads c with some change.
func altered(change func(c *api.CardRoads)) api.CardRoads {
	c := roadsC()
	change(&c)
	return c
}

// bears returns the roads c with other Bears.
func bears(n int) api.CardRoads { return altered(func(c *api.CardRoads) { c.Bears = n }) }

// badRoads returns roads that are not as defined.
func badRoads() map[string]api.CardRoads {
	bad := map[string]api.CardRoads{"nothing": {}, "only the works": {Far: [][]int{{0}}}}
	for name, change := range map[string]func(c *api.CardRoads){
		"no loads":           func(c *api.CardRoads) { c.Loads = nil },
		"a load less":        func(c *api.CardRoads) { c.Loads = c.Loads[:2] },
		"a load more":        func(c *api.CardRoads) { c.Loads = append(c.Loads, 1) },
		"6 houses":           func(c *api.CardRoads) { c.Loads, c.Far = make([]int, 6), slices.Repeat([][]int{make([]int, 7)}, 7) },
		"many houses":        func(c *api.CardRoads) { c.Loads = make([]int, 1000000) },
		"a load of -1":       func(c *api.CardRoads) { c.Loads[1] = -1 },
		"a load of 1001":     func(c *api.CardRoads) { c.Loads[2] = 1001 },
		"a load far above":   func(c *api.CardRoads) { c.Loads[0] = far },
		"Bears of -1":        func(c *api.CardRoads) { c.Bears = -1 },
		"Bears of 1001":      func(c *api.CardRoads) { c.Bears = 1001 },
		"no lists":           func(c *api.CardRoads) { c.Far = nil },
		"a list less":        func(c *api.CardRoads) { c.Far = c.Far[:3] },
		"a list more":        func(c *api.CardRoads) { c.Far = append(c.Far, make([]int, 4)) },
		"a number less":      func(c *api.CardRoads) { c.Far[3] = c.Far[3][:3] },
		"a number more":      func(c *api.CardRoads) { c.Far[0] = append(c.Far[0], 1) },
		"an empty list":      func(c *api.CardRoads) { c.Far[0] = nil },
		"a way of -1":        func(c *api.CardRoads) { c.Far[0][3] = -1 },
		"a way of 1001":      func(c *api.CardRoads) { c.Far[3][1] = 1001 },
		"a way far above":    func(c *api.CardRoads) { c.Far[1][2] = far },
		"a way to itself":    func(c *api.CardRoads) { c.Far[2][2] = -1 },
		"a way to the works": func(c *api.CardRoads) { c.Far[0][0] = 1001 },
	} {
		bad[name] = altered(change)
	}
	return bad
}

// roadsBy returns roads by chance; some of them are short, so that many lengths are equal.
func roadsBy(d *dice) api.CardRoads {
	c := api.CardRoads{Bears: d.upTo(20)}
	for range d.from(1, api.CardStops) {
		c.Loads = append(c.Loads, d.upTo([]int{c.Bears, 8}[d.upTo(1)]))
	}
	most := []int{2, 9, api.CardFar}[d.upTo(2)]
	for range len(c.Loads) + 1 {
		var l []int
		for range len(c.Loads) + 1 {
			l = append(l, d.upTo(most))
		}
		c.Far = append(c.Far, l)
	}
	return c
}

// orders returns all orders of some things, the first one as they are.
func orders(list []int) [][]int {
	if len(list) == 0 {
		return [][]int{nil}
	}
	var all [][]int
	for i, first := range list {
		for _, rest := range orders(slices.Concat(list[:i], list[i+1:])) {
			all = append(all, append([]int{first}, rest...))
		}
	}
	return all
}

// lengthOf returns the length of a tour: from the works, along it, and back.
func lengthOf(c api.CardRoads, tour []int) int {
	way := slices.Concat([]int{0}, tour, []int{0})
	total := 0
	for i := 1; i < len(way); i++ {
		total += c.Far[way[i-1]][way[i]]
	}
	return total
}

// loadOf returns the load of a tour.
func loadOf(c api.CardRoads, tour []int) int {
	total := 0
	for _, house := range tour {
		total += c.Loads[house-1]
	}
	return total
}

// isPlan reports whether lists of houses are a plan, and returns its length.
func isPlan(c api.CardRoads, plan [][]int) (bool, int) {
	total := 0
	met := map[int]int{}
	for _, tour := range plan {
		if len(tour) == 0 || loadOf(c, tour) > c.Bears {
			return false, 0
		}
		for _, house := range tour {
			met[house]++
		}
		total += lengthOf(c, tour)
	}
	for house := range c.Loads {
		if met[house+1] != 1 {
			return false, 0
		}
	}
	return true, total
}

// cuts returns all lists of tours that a list of houses can be cut into.
func cuts(list []int) [][][]int {
	var all [][][]int
	for set := range 1 << (len(list) - 1) {
		plan := [][]int{{list[0]}}
		for i, house := range list[1:] {
			if set>>i&1 == 1 {
				plan = append(plan, nil)
			}
			plan[len(plan)-1] = append(plan[len(plan)-1], house)
		}
		all = append(all, plan)
	}
	return all
}

func comparePlans(a, b [][]int) int { return slices.CompareFunc(a, b, slices.Compare[[]int]) }

// allHouses returns the numbers of all houses.
func allHouses(c api.CardRoads) []int {
	var all []int
	for house := range c.Loads {
		all = append(all, house+1)
	}
	return all
}

// bestPlan returns the best plan, by trying all lists of tours; nil if there is no plan.
func bestPlan(c api.CardRoads) ([][]int, int) {
	var first [][]int
	shortest := 0
	for _, order := range orders(allHouses(c)) {
		for _, plan := range cuts(order) {
			is, n := isPlan(c, plan)
			if is && (first == nil || cmp.Or(cmp.Compare(len(plan), len(first)), cmp.Compare(n, shortest), comparePlans(plan, first)) < 0) {
				first, shortest = plan, n
			}
		}
	}
	return first, shortest
}

// P6.5: Tour of the chapter's roads, and of roads near them.
func TestTourOfC(t *testing.T) {
	for name, x := range map[string]struct {
		c      api.CardRoads
		houses []int
		want   []int
		length int
	}{
		"the example":    {roadsC(), []int{1, 2}, []int{1, 2}, 14},
		"2 and 3":        {roadsC(), []int{2, 3}, []int{2, 3}, 18},
		"one house":      {roadsC(), []int{3}, []int{3}, 10},
		"all of them":    {bears(12), []int{1, 2, 3}, []int{1, 2, 3}, 14},
		"one way":        {altered(func(c *api.CardRoads) { c.Far[2][1], c.Far[0][2] = 0, 1 }), []int{1, 2}, []int{2, 1}, 3},
		"to itself":      {altered(func(c *api.CardRoads) { c.Far[0][0], c.Far[1][1], c.Far[2][2] = 1000, 1000, 1000 }), []int{1, 2}, []int{1, 2}, 14},
		"nothing loaded": {altered(func(c *api.CardRoads) { c.Loads, c.Bears = []int{0, 0, 0}, 0 }), []int{1, 3}, []int{1, 3}, 16},
		"the most":       {api.CardRoads{Loads: make([]int, 5), Far: slices.Repeat([][]int{slices.Repeat([]int{1000}, 6)}, 6)}, []int{1, 2, 3, 4, 5}, []int{1, 2, 3, 4, 5}, 6000},
	} {
		got, n, e := card.Tour(x.c, x.houses)
		if e != api.OK || n != x.length || !slices.Equal(got, x.want) {
			t.Errorf("%s: %v, %d, error %d", name, got, n, e)
		}
	}
}

// P6.5: Tour has ErrArg for what is not as defined, before ErrRule for a tour that is too heavy.
func TestTourOfOthers(t *testing.T) {
	for name, c := range badRoads() {
		got, n, e := card.Tour(c, []int{1})
		wantError(t, name, e, api.ErrArg, got, n)
	}
	for _, c := range []api.CardRoads{roadsC(), bears(0), bears(1000)} {
		for name, houses := range map[string][]int{
			"no houses":           nil,
			"turned":              {2, 1},
			"twice":               {1, 1},
			"twice, not beside":   {1, 2, 1},
			"the works":           {0},
			"the works and one":   {0, 1},
			"the house 4":         {4},
			"one more":            {1, 2, 3, 4},
			"the house -1":        {-1, 1},
			"far above":           {1, far},
			"far below":           {-far - 1},
			"many":                make([]int, 1000000),
			"the last one is bad": {2, 3, 2},
		} {
			got, n, e := card.Tour(c, houses)
			wantError(t, name, e, api.ErrArg, got, n)
		}
	}
	for name, x := range map[string]struct {
		bears  int
		houses []int
		want   api.Errno
	}{
		"1 and 3":            {8, []int{1, 3}, api.ErrRule},
		"1 and 3, 9":         {9, []int{1, 3}, api.OK},
		"all":                {11, []int{1, 2, 3}, api.ErrRule},
		"all, 12":            {12, []int{1, 2, 3}, api.OK},
		"one alone":          {4, []int{3}, api.ErrRule},
		"one alone, 5":       {5, []int{3}, api.OK},
		"nothing can be had": {0, []int{2}, api.ErrRule},
	} {
		got, n, e := card.Tour(bears(x.bears), x.houses)
		wantError(t, name, e, x.want, got, n)
	}
}

// P6.5: no order of some houses is shorter than their best tour, nor as short and before it.
func TestTourByChance(t *testing.T) {
	d := dice(9)
	found, equal := 0, 0
	for range 2000 {
		c := roadsBy(&d)
		houses := slices.DeleteFunc(allHouses(c), func(int) bool { return d.upTo(3) == 0 })
		if len(houses) == 0 {
			continue
		}
		got, n, e := card.Tour(c, houses)
		if loadOf(c, houses) > c.Bears {
			wantError(t, "too heavy", e, api.ErrRule, got, n)
			continue
		}
		all := orders(houses)
		first := slices.MinFunc(all, func(a, b []int) int {
			return cmp.Or(cmp.Compare(lengthOf(c, a), lengthOf(c, b)), slices.Compare(a, b))
		})
		if e != api.OK || n != lengthOf(c, first) || !slices.Equal(got, first) {
			t.Fatalf("%v, %v: %v, %d, error %d, want %v, %d", c, houses, got, n, e, first, lengthOf(c, first))
		}
		found++
		for _, tour := range all {
			if lengthOf(c, tour) == n && !slices.Equal(tour, first) {
				equal++
				break
			}
		}
	}
	if found < 500 || equal < 40 {
		t.Errorf("%d tours, %d with others that are as short", found, equal)
	}
}

// P6.6: Keeps of the chapter's roads.
func TestKeepsOfC(t *testing.T) {
	for name, x := range map[string]struct {
		plan   [][]int
		want   bool
		length int
	}{
		"the best one":        {[][]int{{1}, {2, 3}}, true, 22},
		"another order":       {[][]int{{2, 3}, {1}}, true, 22},
		"another way":         {[][]int{{3, 2}, {1}}, true, 22},
		"1 and 2":             {[][]int{{2, 1}, {3}}, true, 24},
		"each alone":          {[][]int{{3}, {2}, {1}}, true, 32},
		"too heavy":           {[][]int{{1, 3}, {2}}, false, 0},
		"far too heavy":       {[][]int{{1, 2, 3}}, false, 0},
		"one is missing":      {[][]int{{1}, {2}}, false, 0},
		"none":                {nil, false, 0},
		"only an empty tour":  {[][]int{nil}, false, 0},
		"an empty tour":       {[][]int{{1}, {2, 3}, nil}, false, 0},
		"an empty tour first": {[][]int{{}, {1}, {2, 3}}, false, 0},
		"one twice":           {[][]int{{1}, {2, 3}, {1}}, false, 0},
		"one twice in one":    {[][]int{{1}, {2, 2}, {3}}, false, 0},
		"one for another":     {[][]int{{1}, {2}, {2}}, false, 0},
		"many":                {slices.Repeat([][]int{{1}, {2, 3}}, 100000), false, 0},
	} {
		if got, n, e := card.Keeps(roadsC(), x.plan); e != api.OK || got != x.want || n != x.length {
			t.Errorf("%s: %v, %d, error %d", name, got, n, e)
		}
	}
	for name, c := range badRoads() {
		got, n, e := card.Keeps(c, [][]int{{1}})
		wantError(t, name, e, api.ErrArg, got, n)
	}
	for name, plan := range map[string][][]int{
		"the works":             {{0}},
		"the works too":         {{1}, {2, 0, 3}},
		"the house 4":           {{1}, {2, 3}, {4}},
		"the house -1":          {{-1}, {1}, {2, 3}},
		"far above":             {{1}, {2, far}},
		"far below":             {{-far - 1}},
		"too heavy, and a bad":  {{1, 2, 3}, {4}},
		"empty, and a bad one":  {nil, {4}},
		"twice, and a bad one":  {{1}, {1}, {0}},
		"bad in a tour twice":   {{1, 1, 5}},
		"many, and a bad one":   append(slices.Repeat([][]int{{1}}, 100000), []int{4}),
		"a long tour, and more": {append(slices.Repeat([]int{1}, 100000), 4)},
	} {
		got, n, e := card.Keeps(roadsC(), plan)
		wantError(t, name, e, api.ErrArg, got, n)
	}
}

// planBy returns lists of houses by chance, often a plan.
func planBy(d *dice, c api.CardRoads) [][]int {
	all := orders(allHouses(c))
	some := cuts(all[d.upTo(len(all)-1)])
	plan := some[d.upTo(len(some)-1)]
	if d.upTo(3) == 0 {
		i := d.upTo(len(plan) - 1)
		plan[i] = append(plan[i], d.from(1, len(c.Loads)))
	}
	if d.upTo(5) == 0 {
		i := d.upTo(len(plan) - 1)
		plan[i] = plan[i][1:]
	}
	return plan
}

// P6.6: Keeps reports what the definitions say.
func TestKeepsByChance(t *testing.T) {
	d := dice(10)
	met := map[bool]int{}
	for range 5000 {
		c := roadsBy(&d)
		plan := planBy(&d, c)
		is, length := isPlan(c, plan)
		if got, n, e := card.Keeps(c, plan); e != api.OK || got != is || n != length {
			t.Fatalf("%v, %v: %v, %d, error %d", c, plan, got, n, e)
		}
		met[is]++
	}
	if met[true] < 500 || met[false] < 500 {
		t.Errorf("too few of one kind: %v", met)
	}
}

// P6.6: Plan of the chapter's roads, and of roads near them.
func TestPlanOfC(t *testing.T) {
	for name, x := range map[string]struct {
		c      api.CardRoads
		want   [][]int
		length int
	}{
		"the example":     {roadsC(), [][]int{{1}, {2, 3}}, 22},
		"all in one":      {bears(12), [][]int{{1, 2, 3}}, 14},
		"not all in one":  {bears(11), [][]int{{1}, {2, 3}}, 22},
		"each alone":      {bears(5), [][]int{{1}, {2}, {3}}, 32},
		"the 3 alone":     {bears(7), [][]int{{1, 2}, {3}}, 24},
		"nothing loaded":  {altered(func(c *api.CardRoads) { c.Loads, c.Bears = []int{0, 0, 0}, 0 }), [][]int{{1, 2, 3}}, 14},
		"fewer is longer": {altered(func(c *api.CardRoads) { c.Far[1][2], c.Far[2][1], c.Far[2][3], c.Far[3][2] = 1000, 1000, 1000, 1000 }), [][]int{{1}, {2, 3}}, 1018},
		"one house":       {api.CardRoads{Loads: []int{1000}, Bears: 1000, Far: [][]int{{0, 7}, {1, 0}}}, [][]int{{1}}, 8},
		"all the same":    {api.CardRoads{Loads: []int{1, 1, 1, 1, 1}, Bears: 3, Far: slices.Repeat([][]int{make([]int, 6)}, 6)}, [][]int{{1, 2}, {3, 4, 5}}, 0},
	} {
		got, n, e := card.Plan(x.c)
		if e != api.OK || n != x.length || comparePlans(got, x.want) != 0 {
			t.Errorf("%s: %v, %d, error %d", name, got, n, e)
		}
	}
	for name, c := range badRoads() {
		got, n, e := card.Plan(c)
		wantError(t, name, e, api.ErrArg, got, n)
	}
	for name, c := range map[string]api.CardRoads{
		"the 3 is too heavy":   bears(4),
		"all are too heavy":    bears(0),
		"the 1 is too heavy":   altered(func(c *api.CardRoads) { c.Loads[0] = 9 }),
		"the most is too much": altered(func(c *api.CardRoads) { c.Loads[1], c.Bears = 1000, 999 }),
	} {
		got, n, e := card.Plan(c)
		wantError(t, name, e, api.ErrNone, got, n)
	}
}

// P6.6: no plan has fewer tours than the best one, nor as many and is shorter, nor is as short and before it.
func TestPlanByChance(t *testing.T) {
	d := dice(11)
	tours := map[int]int{}
	for range 600 {
		c := roadsBy(&d)
		want, length := bestPlan(c)
		got, n, e := card.Plan(c)
		tours[len(want)]++
		if want == nil {
			wantError(t, "no plan", e, api.ErrNone, got, n)
			continue
		}
		if e != api.OK || n != length || comparePlans(got, want) != 0 {
			t.Fatalf("%v: %v, %d, error %d, want %v, %d", c, got, n, e, want, length)
		}
		if is, m, e := card.Keeps(c, got); e != api.OK || !is || m != n {
			t.Fatalf("%v, %v: %v, %d, error %d", c, got, is, m, e)
		}
	}
	for n := range 4 {
		if tours[n] < 20 {
			t.Errorf("%d plans of %d tours", tours[n], n)
		}
	}
}
