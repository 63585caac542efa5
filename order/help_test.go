package order_test

import (
	"iter"
	"reflect"
	"slices"
	"strings"
	"testing"

	"nacre/api"
)

const far = 1<<63 - 1

// dice gives numbers that look random, and are the same each time.
type dice uint64

func (d *dice) upTo(n int) int {
	*d = *d*6364136223846793005 + 1442695040888963407
	return int(uint64(*d)>>33) % (n + 1)
}

func (d *dice) from(low, high int) int { return low + d.upTo(high-low) }

func span(low, high int) api.Span { return api.Span{Low: low, High: high} }

func only(n int) api.Span { return span(n, n) }

func list(n ...int) []int { return n }

func lists(l ...[]int) [][]int { return l }

func goods(lines ...int) []api.OrderGood {
	var all []api.OrderGood
	for _, n := range lines {
		all = append(all, api.OrderGood{Line: n})
	}
	return all
}

func entry(edition, number, good int) api.OrderEntry {
	return api.OrderEntry{Edition: edition, Number: number, Good: good}
}

func letter(number, low, high, many int) api.OrderLetter {
	return api.OrderLetter{Number: number, Lines: span(low, high), Many: many}
}

func buyer(editions int, l ...api.OrderLetter) api.OrderBuyer {
	return api.OrderBuyer{Editions: editions, Letters: l}
}

// bookB returns the book b of the chapter.
func bookB() api.OrderBook {
	return api.OrderBook{Goods: goods(20, 24, 24, 30), Editions: 2, Moves: 2, Entries: []api.OrderEntry{entry(0, 0, 1), entry(0, 3, 3), entry(1, 0, 0)}}
}

// changed returns the book b with some change.
func changed(change func(b *api.OrderBook)) api.OrderBook {
	b := bookB()
	change(&b)
	return b
}

// with returns a book with some entries more.
func with(b api.OrderBook, more ...api.OrderEntry) api.OrderBook {
	b.Entries = slices.Concat(b.Entries, more)
	return b
}

// bareBook returns a book without entries, with so many goods, the Lines of which are 1, 2 and so on.
func bareBook(many, editions, moves int) api.OrderBook {
	b := api.OrderBook{Editions: editions, Moves: moves}
	for n := range many {
		b.Goods = append(b.Goods, api.OrderGood{Line: n + 1})
	}
	return b
}

// fullBook returns a book with as much of everything as there can be.
func fullBook() api.OrderBook {
	b := api.OrderBook{Goods: slices.Repeat(goods(99), 5), Editions: 3, Moves: 5}
	return with(b, entry(0, 4, 4), entry(2, 0, 4), entry(2, 4, 0), entry(1, 2, 2), entry(1, 2, 2), entry(2, 1, 3), entry(0, 0, 0), entry(2, 4, 0))
}

// tornBooks returns books that are not possible.
func tornBooks() map[string]api.OrderBook {
	return map[string]api.OrderBook{
		"Moves of 1":               changed(func(b *api.OrderBook) { b.Moves = 1 }),
		"Moves of 0":               changed(func(b *api.OrderBook) { b.Moves = 0 }),
		"a number twice":           with(bookB(), entry(0, 0, 2)),
		"a number twice later":     with(bookB(), entry(1, 0, 2)),
		"one of the goods twice":   with(bookB(), entry(0, 1, 1)),
		"twice later":              with(bookB(), entry(1, 1, 0)),
		"three that are others":    with(bookB(), entry(1, 3, 1)),
		"others than the last but": {Goods: goods(1, 1), Editions: 3, Moves: 1, Entries: []api.OrderEntry{entry(0, 0, 0), entry(2, 0, 1)}},
		"another one and no Moves": {Goods: goods(1, 1, 1), Editions: 3, Entries: []api.OrderEntry{entry(0, 0, 0), entry(2, 1, 0)}},
		"three after two":          {Goods: goods(1, 1, 1, 1, 1), Editions: 2, Moves: 2, Entries: []api.OrderEntry{entry(0, 0, 0), entry(0, 1, 1), entry(0, 2, 2), entry(1, 0, 1), entry(1, 1, 2)}},
	}
}

// badBooks returns books that are not as defined.
func badBooks() map[string]api.OrderBook {
	bad := map[string]api.OrderBook{"nothing": {}}
	for name, change := range map[string]func(b *api.OrderBook){
		"no goods":                  func(b *api.OrderBook) { b.Goods = nil },
		"no goods and no entries":   func(b *api.OrderBook) { b.Goods, b.Entries = nil, nil },
		"one of the goods":          func(b *api.OrderBook) { b.Goods, b.Entries = goods(20), nil },
		"6 goods":                   func(b *api.OrderBook) { b.Goods = goods(1, 2, 3, 4, 5, 6) },
		"many goods":                func(b *api.OrderBook) { b.Goods = slices.Repeat(b.Goods, 100000) },
		"an entry of the number 4":  func(b *api.OrderBook) { b.Entries[1].Number = 4 },
		"an entry of the number -1": func(b *api.OrderBook) { b.Entries[1].Number = -1 },
		"an entry of a number far":  func(b *api.OrderBook) { b.Entries[0].Number = far },
		"an entry of the good 4":    func(b *api.OrderBook) { b.Entries[2].Good = 4 },
		"an entry of the good -1":   func(b *api.OrderBook) { b.Entries[0].Good = -1 },
		"an entry of a good far":    func(b *api.OrderBook) { b.Entries[2].Good = -far - 1 },
		"an entry of the edition 2": func(b *api.OrderBook) { b.Entries[2].Edition = 2 },
		"an entry of edition -1":    func(b *api.OrderBook) { b.Entries[1].Edition = -1 },
		"an entry far":              func(b *api.OrderBook) { b.Entries[0].Edition = far },
		"a Line of 0":               func(b *api.OrderBook) { b.Goods[3].Line = 0 },
		"a Line of -1":              func(b *api.OrderBook) { b.Goods[0].Line = -1 },
		"a Line of 100":             func(b *api.OrderBook) { b.Goods[1].Line = 100 },
		"a Line far":                func(b *api.OrderBook) { b.Goods[2].Line = far },
		"no editions":               func(b *api.OrderBook) { b.Editions, b.Entries = 0, nil },
		"-1 editions":               func(b *api.OrderBook) { b.Editions, b.Entries = -1, nil },
		"4 editions":                func(b *api.OrderBook) { b.Editions = 4 },
		"editions far":              func(b *api.OrderBook) { b.Editions = far },
		"editions far below":        func(b *api.OrderBook) { b.Editions = -far - 1 },
		"an edition less":           func(b *api.OrderBook) { b.Editions = 1 },
		"Moves of -1":               func(b *api.OrderBook) { b.Moves = -1 },
		"Moves of 6":                func(b *api.OrderBook) { b.Moves = 6 },
		"Moves far":                 func(b *api.OrderBook) { b.Moves = far },
		"9 entries":                 func(b *api.OrderBook) { b.Entries = slices.Repeat(b.Entries, 3) },
		"many entries":              func(b *api.OrderBook) { b.Entries = slices.Repeat(b.Entries, 100000) },
	} {
		bad[name] = changed(change)
	}
	return bad
}

// isTruth reports whether something with all numbers is a truth of a book.
func isTruth(b api.OrderBook, means [][]int) bool {
	for edition := range means {
		met := map[int]bool{}
		for number, good := range means[edition] {
			if met[good] {
				return false
			}
			met[good] = true
			for _, e := range b.Entries {
				if e.Edition == edition && e.Number == number && e.Good != good {
					return false
				}
			}
		}
		if edition > 0 {
			others := 0
			for number, good := range means[edition] {
				if means[edition-1][number] != good {
					others++
				}
			}
			if others > b.Moves {
				return false
			}
		}
	}
	return true
}

// alls goes through all that numbers can mean in all editions, no two of them the same in one edition;
// editions with which something is not so are left out, with all that come after them.
func alls(b api.OrderBook, is func(means [][]int) bool) iter.Seq[[][]int] {
	return func(yield func([][]int) bool) {
		var means [][]int
		var add func() bool
		var set func(last []int) bool
		add = func() bool {
			if len(means) == b.Editions {
				return yield(means)
			}
			means = append(means, nil)
			goes := set(nil)
			means = means[:len(means)-1]
			return goes
		}
		set = func(last []int) bool {
			if len(last) == len(b.Goods) {
				means[len(means)-1] = last
				return !is(means) || add()
			}
			for good := range b.Goods {
				if !slices.Contains(last, good) && !set(append(slices.Clone(last), good)) {
					return false
				}
			}
			return true
		}
		add()
	}
}

// everyEdition lets all editions be gone through.
func everyEdition([][]int) bool { return true }

// truths returns all truths of a book, in lexicographic order, by trying all that numbers can mean.
func truths(b api.OrderBook) [][][]int {
	var all [][][]int
	for means := range alls(b, func(means [][]int) bool { return isTruth(b, means) }) {
		all = append(all, slices.Clone(means))
	}
	return all
}

// size is how many goods and editions a book by chance has at most.
type size struct {
	goods, editions int
}

// small is the sizes of books that have few truths, whatever their entries are.
func small() []size { return []size{{2, 3}, {3, 3}, {4, 2}, {5, 1}} }

// bookBy returns a book by chance with a truth of it.
func bookBy(d *dice, s size) (api.OrderBook, [][]int) {
	b := api.OrderBook{Editions: d.from(1, s.editions), Moves: d.upTo(api.OrderGoods)}
	for range d.from(2, s.goods) {
		b.Goods = append(b.Goods, api.OrderGood{Line: d.from(10, 14)})
	}
	means := truthBy(d, b)
	return entered(d, b, means, d.upTo(api.OrderEntries)*d.upTo(1)), means
}

// largeBy returns a book by chance with as many goods, editions and entries as there can be, with a truth of it.
func largeBy(d *dice) (api.OrderBook, [][]int) {
	b := bareBook(5, 3, d.upTo(api.OrderGoods))
	for i := range b.Goods {
		b.Goods[i].Line = d.from(10, 14)
	}
	means := truthBy(d, b)
	return entered(d, b, means, api.OrderEntries), means
}

// truthBy returns a truth by chance of a book without entries.
func truthBy(d *dice, b api.OrderBook) [][]int {
	means := lists(shuffled(d, len(b.Goods)))
	for range b.Editions - 1 {
		means = append(means, changedBy(d, means[len(means)-1], b.Moves))
	}
	return means
}

// entered returns a book with so many entries by chance more, as a truth says.
func entered(d *dice, b api.OrderBook, means [][]int, many int) api.OrderBook {
	for range many {
		edition, number := d.upTo(b.Editions-1), d.upTo(len(b.Goods)-1)
		b = with(b, entry(edition, number, means[edition][number]))
	}
	return b
}

// shuffled returns an order by chance of so many goods.
func shuffled(d *dice, many int) []int {
	var order []int
	for n := range many {
		order = slices.Insert(order, d.upTo(n), n)
	}
	return order
}

// changedBy returns what numbers mean with a change by chance, of so many of them at most.
func changedBy(d *dice, means []int, moves int) []int {
	for {
		other := shuffled(d, len(means))
		if d.upTo(4) == 0 {
			other = slices.Clone(means)
		}
		many := 0
		for number, good := range means {
			if other[number] != good {
				many++
			}
		}
		if many <= moves {
			return other
		}
	}
}

// tornBy returns a book that need not be possible: an entry of it, or Moves, is another one.
func tornBy(d *dice, b api.OrderBook) api.OrderBook {
	if d.upTo(1) == 0 {
		b.Moves = d.upTo(b.Moves)
	}
	if len(b.Entries) < api.OrderEntries {
		b = with(b, entry(d.upTo(b.Editions-1), d.upTo(len(b.Goods)-1), d.upTo(len(b.Goods)-1)))
	}
	return b
}

// buyerBy returns a buyer by chance, whose letters are true in a truth if they are not wild.
func buyerBy(d *dice, b api.OrderBook, means [][]int, wild bool) (api.OrderBuyer, int) {
	edition := d.upTo(b.Editions - 1)
	x := api.OrderBuyer{Editions: 1<<edition | d.upTo(1<<b.Editions-1)}
	for range d.from(1, api.OrderLetters) {
		l := api.OrderLetter{Number: d.upTo(len(b.Goods) - 1), Many: d.upTo(9)}
		line := b.Goods[means[edition][l.Number]].Line
		if wild && d.upTo(2) == 0 {
			line = d.from(9, 15)
		}
		l.Lines = span(line-d.upTo(2)*d.upTo(1), line+d.upTo(2)*d.upTo(1))
		x.Letters = append(x.Letters, l)
	}
	return x, edition
}

// isTrue reports whether a letter is true if numbers mean so.
func isTrue(b api.OrderBook, l api.OrderLetter, means []int) bool {
	line := b.Goods[means[l.Number]].Line
	return l.Lines.Low <= line && line <= l.Lines.High
}

// sealed returns a text of lines, with the right CHECK.
func sealed(lines ...string) string {
	sum := 0
	for n, line := range lines {
		for i, mark := range []byte(line) {
			sum += int(mark) * (i + 1) * (n + 1)
		}
	}
	rest := sum % 151
	digits := string([]byte{byte('0' + rest/100), byte('0' + rest/10%10), byte('0' + rest%10)})
	return strings.Join(append(slices.Clone(lines), "end "+digits), "\n") + "\n"
}

// sameBook reports whether two books are equal; nil and empty lists are.
func sameBook(a, b api.OrderBook) bool {
	return a.Editions == b.Editions && a.Moves == b.Moves && slices.Equal(a.Goods, b.Goods) && slices.Equal(a.Entries, b.Entries)
}

// sameLists reports whether two lists of lists are equal.
func sameLists(a, b [][]int) bool {
	return slices.EqualFunc(a, b, func(x, y []int) bool { return slices.Equal(x, y) })
}

// isPart reports whether all of some things are among others.
func isPart[T comparable](some, all []T) bool {
	return !slices.ContainsFunc(some, func(x T) bool { return !slices.Contains(all, x) })
}

// empty reports whether a result is a zero value, or an empty list.
func empty(x any) bool {
	v := reflect.ValueOf(x)
	switch v.Kind() {
	case reflect.Slice:
		return v.Len() == 0
	case reflect.Struct:
		for i := range v.NumField() {
			if !empty(v.Field(i).Interface()) {
				return false
			}
		}
		return true
	}
	return v.IsZero()
}

// wantError fails unless a call has an error, and zero values with it.
func wantError(t *testing.T, name string, got, want api.Errno, results ...any) {
	t.Helper()
	if got != want {
		t.Errorf("%s: error %d, want %d", name, got, want)
	}
	for _, x := range results {
		if want != api.OK && !empty(x) {
			t.Errorf("%s: %v with the error %d", name, x, got)
		}
	}
}
