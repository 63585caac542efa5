package order_test

import (
	"slices"
	"testing"

	"nacre/api"
	"nacre/order"
)

// P9.1: Means and Numbers of the book b, the chapter's examples among others, and of other books.
func TestMeansOfB(t *testing.T) {
	wide := api.OrderBook{Goods: goods(1, 1, 1, 1, 1), Editions: 3, Moves: 2}
	for name, x := range map[string]struct {
		b               api.OrderBook
		edition, number int
		means, numbers  []int
	}{
		"b, 0 0":                       {bookB(), 0, 0, list(1), list(1, 2)},
		"b, 0 1":                       {bookB(), 0, 1, list(0, 2), list(0)},
		"b, 0 2":                       {bookB(), 0, 2, list(0, 2), list(1, 2)},
		"b, 0 3":                       {bookB(), 0, 3, list(3), list(3)},
		"b, 1 0":                       {bookB(), 1, 0, list(0), list(0)},
		"b, 1 1":                       {bookB(), 1, 1, list(1, 2), list(1, 2)},
		"b, 1 2":                       {bookB(), 1, 2, list(1, 2), list(1, 2)},
		"b, 1 3":                       {bookB(), 1, 3, list(3), list(3)},
		"nothing is known":             {bareBook(5, 1, 0), 0, 2, list(0, 1, 2, 3, 4), list(0, 1, 2, 3, 4)},
		"no Moves":                     {with(bareBook(4, 3, 0), entry(2, 3, 1)), 0, 3, list(1), list(0, 1, 2)},
		"one Move is none":             {with(bareBook(4, 3, 1), entry(2, 3, 1)), 1, 3, list(1), list(0, 1, 2)},
		"two Moves":                    {with(bareBook(4, 3, 2), entry(2, 3, 1)), 1, 3, list(0, 1, 2, 3), list(0, 1, 2, 3)},
		"what is left":                 {with(bareBook(3, 1, 0), entry(0, 0, 2), entry(0, 2, 0)), 0, 1, list(1), list(1)},
		"before, after two each time":  {with(wide, entry(0, 0, 0), entry(0, 1, 1), entry(2, 0, 1), entry(2, 1, 2)), 1, 0, list(0, 1, 2), list(0, 1, 2, 3, 4)},
		"another book between the two": {with(wide, entry(0, 0, 0), entry(2, 0, 1)), 1, 0, list(0, 1, 2, 3, 4), list(0, 1, 2, 3, 4)},
	} {
		if got, e := order.Means(x.b, x.edition, x.number); e != api.OK || !slices.Equal(got, x.means) {
			t.Errorf("%s: means %v, error %d, want %v", name, got, e, x.means)
		}
		if got, e := order.Numbers(x.b, x.edition, x.number); e != api.OK || !slices.Equal(got, x.numbers) {
			t.Errorf("%s: numbers %v, error %d, want %v", name, got, e, x.numbers)
		}
	}
}

// wantBookErrors fails unless all four have an error.
func wantBookErrors(t *testing.T, name string, b api.OrderBook, edition, number int, want api.Errno) {
	t.Helper()
	means, e := order.Means(b, edition, number)
	wantError(t, name, e, want, means)
	numbers, e := order.Numbers(b, edition, number)
	wantError(t, name, e, want, numbers)
}

// P9.1 and P9.2: ErrArg for what is not as defined, ErrRule for a book that is not possible, in this order.
func TestBooksWithErrors(t *testing.T) {
	check := func(name string, b api.OrderBook, want api.Errno) {
		t.Helper()
		wantBookErrors(t, name, b, 0, 0, want)
		n, e := order.Truths(b)
		wantError(t, name, e, want, n)
		edition, number, left, e := order.Ask(b)
		wantError(t, name, e, want, edition, number, left)
	}
	for name, b := range badBooks() {
		check(name, b, api.ErrArg)
	}
	outside := [][2]int{{2, 0}, {-1, 0}, {far, 0}, {-far - 1, 0}, {0, 4}, {0, -1}, {1, far}, {1, -far - 1}}
	for name, b := range tornBooks() {
		check(name, b, api.ErrRule)
		wantBookErrors(t, name, b, b.Editions-1, len(b.Goods)-1, api.ErrRule)
		wantBookErrors(t, name, b, b.Editions, 0, api.ErrArg)
		wantBookErrors(t, name, b, 0, len(b.Goods), api.ErrArg)
	}
	for _, x := range outside {
		wantBookErrors(t, "outside of b", bookB(), x[0], x[1], api.ErrArg)
	}
}

// P9.2: Truths and Ask of the book b, the chapter's examples among others, and of other books.
func TestAskB(t *testing.T) {
	for name, x := range map[string]struct {
		b                             api.OrderBook
		truths, edition, number, left int
		e                             api.Errno
	}{
		"b":                       {bookB(), 2, 0, 1, 1, api.OK},
		"b and an answer":         {with(bookB(), entry(0, 1, 2)), 1, 0, 0, 0, api.ErrNone},
		"b and a later one":       {with(bookB(), entry(1, 2, 2)), 1, 0, 0, 0, api.ErrNone},
		"two goods":               {bareBook(2, 1, 0), 2, 0, 0, 1, api.OK},
		"two goods, Moves of 5":   {bareBook(2, 3, 5), 8, 0, 0, 4, api.OK},
		"two goods, Moves of 1":   {bareBook(2, 3, 1), 2, 0, 0, 1, api.OK},
		"five goods":              {bareBook(5, 1, 0), 120, 0, 0, 24, api.OK},
		"three editions":          {bareBook(5, 3, 0), 120, 0, 0, 24, api.OK},
		"a Move":                  {bareBook(5, 3, 1), 120, 0, 0, 24, api.OK},
		"two Moves":               {bareBook(5, 3, 2), 120 * 11 * 11, 0, 0, 24 * 121, api.OK},
		"three Moves":             {bareBook(5, 3, 3), 120 * 31 * 31, 0, 0, 24 * 961, api.OK},
		"four Moves":              {bareBook(5, 3, 4), 120 * 76 * 76, 0, 0, 24 * 5776, api.OK},
		"five Moves":              {bareBook(5, 3, 5), 120 * 120 * 120, 0, 0, 24 * 14400, api.OK},
		"four goods, four Moves":  {bareBook(4, 2, 4), 24 * 24, 0, 0, 6 * 24, api.OK},
		"one is known":            {with(bareBook(3, 1, 0), entry(0, 0, 1)), 2, 0, 1, 1, api.OK},
		"the first edition is":    {with(bareBook(3, 2, 3), entry(0, 0, 0), entry(0, 1, 1)), 6, 1, 0, 2, api.OK},
		"a later one tells more":  {with(bareBook(3, 2, 2), entry(0, 0, 0), entry(0, 1, 1)), 4, 1, 0, 2, api.OK},
		"all are known but one":   {with(bareBook(3, 3, 3), entry(0, 0, 0), entry(0, 1, 1), entry(1, 0, 0), entry(1, 1, 1), entry(2, 2, 2)), 2, 2, 0, 1, api.OK},
		"the last number is best": {with(bareBook(5, 2, 2), entry(0, 0, 0), entry(0, 1, 1), entry(0, 2, 2), entry(0, 3, 3), entry(1, 0, 0), entry(1, 1, 1)), 4, 1, 2, 2, api.OK},
	} {
		if n, e := order.Truths(x.b); e != api.OK || n != x.truths {
			t.Errorf("%s: %d truths, error %d, want %d", name, n, e, x.truths)
		}
		edition, number, left, e := order.Ask(x.b)
		wantError(t, name, e, x.e, edition, number, left)
		if edition != x.edition || number != x.number || left != x.left {
			t.Errorf("%s: %d %d, %d left, want %d %d, %d", name, edition, number, left, x.edition, x.number, x.left)
		}
	}
}

// answers returns in how many truths each number means each of the goods: by edition, number and good.
func answers(b api.OrderBook, all [][][]int) map[[3]int]int {
	many := map[[3]int]int{}
	for _, means := range all {
		for edition, l := range means {
			for number, good := range l {
				many[[3]int{edition, number, good}]++
			}
		}
	}
	return many
}

// P9.1 and P9.2: all four return what the chapter defines, by trying all truths.
func TestBooksByChance(t *testing.T) {
	d := dice(2)
	found := map[api.Errno]int{}
	others := 0
	for range 4000 {
		b, _ := bookBy(&d, small()[d.upTo(3)])
		if d.upTo(2) == 0 {
			b = tornBy(&d, b)
		}
		e, asked := wantTruths(t, b, truths(b))
		found[e]++
		if asked != [2]int{} {
			others++
		}
	}
	for _, e := range []api.Errno{api.OK, api.ErrRule, api.ErrNone} {
		if found[e] < 100 {
			t.Errorf("errors: %v", found)
		}
	}
	if others < 300 {
		t.Errorf("%d times another question is the best", others)
	}
}

// P9.1 and P9.2: and of books with as many goods and editions as there can be.
func TestLargeBooksByChance(t *testing.T) {
	d := dice(3)
	for range 300 {
		b, _ := largeBy(&d)
		wantTruths(t, b, truths(b))
	}
}

// wantTruths fails unless all four return what all truths of a book say; it returns the error of Ask, and the question.
func wantTruths(t *testing.T, b api.OrderBook, all [][][]int) (api.Errno, [2]int) {
	t.Helper()
	want := api.OK
	if len(all) == 0 {
		want = api.ErrRule
	}
	n, e := order.Truths(b)
	wantError(t, "Truths", e, want, n)
	if n != len(all) {
		t.Fatalf("%v: %d truths, want %d", b, n, len(all))
	}
	many := answers(b, all)
	best, least := [2]int{}, 0
	for edition := range b.Editions {
		for number := range b.Goods {
			var means, numbers []int
			worst := 0
			for good := range b.Goods {
				if many[[3]int{edition, number, good}] > 0 {
					means = append(means, good)
				}
				// here number is one of the goods
				if many[[3]int{edition, good, number}] > 0 {
					numbers = append(numbers, good)
				}
				worst = max(worst, many[[3]int{edition, number, good}])
			}
			if edition+number == 0 || worst < least {
				best, least = [2]int{edition, number}, worst
			}
			if got, e := order.Means(b, edition, number); e != want || !slices.Equal(got, means) {
				t.Fatalf("%v: %d in %d means %v, error %d, want %v", b, number, edition, got, e, means)
			}
			if got, e := order.Numbers(b, edition, number); e != want || !slices.Equal(got, numbers) {
				t.Fatalf("%v: %d in %d is meant by %v, error %d, want %v", b, number, edition, got, e, numbers)
			}
		}
	}
	if len(all) == 1 {
		want = api.ErrNone
	}
	if want != api.OK {
		best, least = [2]int{}, 0
	}
	edition, number, left, e := order.Ask(b)
	if e != want || [2]int{edition, number} != best || left != least {
		t.Fatalf("%v: %d %d, %d left, error %d, want %v, %d, error %d", b, edition, number, left, e, best, least, want)
	}
	return want, best
}

// P9.1 and P0.9: whatever is true, what a number means is among the goods that are returned, and the number among those of what it means.
func TestMeansWhateverIsTrue(t *testing.T) {
	d := dice(4)
	for range 1000 {
		b, means := bookBy(&d, size{5, 3})
		for edition, l := range means {
			for number, good := range l {
				if got, e := order.Means(b, edition, number); e != api.OK || !slices.Contains(got, good) {
					t.Fatalf("%v, %v: %d in %d means %v, error %d", b, means, number, edition, got, e)
				}
				if got, e := order.Numbers(b, edition, good); e != api.OK || !slices.Contains(got, number) {
					t.Fatalf("%v, %v: %d in %d is meant by %v, error %d", b, means, good, edition, got, e)
				}
			}
		}
	}
}

// leftAfter returns how many truths a book has in which a number means one of the goods.
func leftAfter(t *testing.T, b api.OrderBook, edition, number, good int) int {
	t.Helper()
	n, e := order.Truths(with(b, entry(edition, number, good)))
	if e != api.OK && e != api.ErrRule {
		t.Fatalf("%v: error %d", b, e)
	}
	return n
}

// P9.2: whatever the answer, no more truths are left than is told; after no question that somebody proposes are fewer left.
func TestAskWhateverIsTrue(t *testing.T) {
	d := dice(5)
	asked := 0
	for range 300 {
		b, _ := bookBy(&d, size{5, 3})
		b.Entries = b.Entries[:min(len(b.Entries), api.OrderEntries-1)]
		edition, number, left, e := order.Ask(b)
		if e == api.ErrNone {
			continue
		}
		if e != api.OK {
			t.Fatalf("%v: error %d", b, e)
		}
		asked++
		for good := range b.Goods {
			if n := leftAfter(t, b, edition, number, good); n > left {
				t.Fatalf("%v: %d truths are left, %d were told", b, n, left)
			}
		}
		for other := range b.Editions {
			for m := range b.Goods {
				worst := 0
				for good := range b.Goods {
					worst = max(worst, leftAfter(t, b, other, m, good))
				}
				if worst < left {
					t.Fatalf("%v: %d truths are left after %d %d, %d were told", b, worst, other, m, left)
				}
			}
		}
	}
	if asked < 200 {
		t.Errorf("%d were asked", asked)
	}
}
