package river_test

import (
	"iter"
	"math/bits"
	"reflect"
	"slices"
	"strings"
	"testing"

	"nacre/api"
)

const far = 1<<63 - 1

// dice gives numbers that look random, and are the same each time.
type dice uint64

func (d *dice) upTo(n int) int {
	*d = *d*6364136223846793005 + 1442695040888963407
	return int(uint64(*d)>>33) % (n + 1)
}

func (d *dice) from(low, high int) int { return low + d.upTo(high-low) }

func (d *dice) in(s api.Span) int { return d.from(s.Low, s.High) }

func span(low, high int) api.Span { return api.Span{Low: low, High: high} }

func only(n int) api.Span { return span(n, n) }

func list(n ...int) []int { return n }

func shell(off int, rings ...int) api.RiverShell { return api.RiverShell{Rings: rings, Off: off} }

func sack(l ...api.RiverShell) api.RiverSack { return api.RiverSack{Shells: l} }

// tested returns a sack with a test more.
func tested(s api.RiverSack, shell int, closed bool) api.RiverSack {
	s.Tests = append(slices.Clone(s.Tests), api.RiverTest{Shell: shell, Closed: closed})
	return s
}

func origin(river, year int) api.RiverOrigin { return api.RiverOrigin{River: river, Year: year} }

// origins returns origins with rivers and years, one after the other.
func origins(n ...int) []api.RiverOrigin {
	var all []api.RiverOrigin
	for i := 0; i < len(n); i += 2 {
		all = append(all, origin(n[i], n[i+1]))
	}
	return all
}

// bookB returns the book b of the chapter.
func bookB() api.RiverBook {
	return api.RiverBook{Years: 4, Rivers: []api.RiverRiver{
		{Grow: []api.Span{span(10, 12), span(14, 16), span(8, 9), span(20, 22)}, Vary: 1, Closed: 4},
		{Grow: []api.Span{span(12, 14), span(9, 10), span(15, 15), span(10, 12)}, Closed: 10},
	}}
}

// The shells of the chapter.
func shellS() api.RiverShell { return shell(0, 15, 9) }

func shellT() api.RiverShell { return shell(1, 13, 9) }

func shellU() api.RiverShell { return shell(1, 12) }

func shellV() api.RiverShell { return shell(0, 17) }

// mixed returns the chapter's sack t u v.
func mixed() api.RiverSack { return sack(shellT(), shellU(), shellV()) }

// changed returns the book b with some change.
func changed(change func(b *api.RiverBook)) api.RiverBook {
	b := bookB()
	change(&b)
	return b
}

// bareBook returns a book with as little of everything as there can be.
func bareBook() api.RiverBook {
	return api.RiverBook{Years: 1, Rivers: []api.RiverRiver{{Grow: make([]api.Span, 1)}}}
}

// fullBook returns a book with as much of everything as there can be.
func fullBook() api.RiverBook {
	b := api.RiverBook{Years: 6}
	for range 3 {
		b.Rivers = append(b.Rivers, api.RiverRiver{Grow: slices.Repeat([]api.Span{span(36, 40)}, 6), Vary: 3, Closed: 63})
	}
	return b
}

// evenBook returns a book of which no origin can be told from another one by a shell with a single ring; every other year is closed.
func evenBook() api.RiverBook {
	b := fullBook()
	for i := range b.Rivers {
		b.Rivers[i].Closed = 0b101010
	}
	return b
}

// badBooks returns books that are not as defined.
func badBooks() map[string]api.RiverBook {
	bad := map[string]api.RiverBook{"nothing": {}}
	for name, change := range map[string]func(b *api.RiverBook){
		"Years of 3":             func(b *api.RiverBook) { b.Years = 3 },
		"Years of 5":             func(b *api.RiverBook) { b.Years = 5 },
		"Years of 0":             func(b *api.RiverBook) { b.Years = 0 },
		"Years of -1":            func(b *api.RiverBook) { b.Years = -1 },
		"Years far above":        func(b *api.RiverBook) { b.Years = far },
		"Years far below":        func(b *api.RiverBook) { b.Years = -far - 1 },
		"no years at all":        func(b *api.RiverBook) { *b = api.RiverBook{Rivers: make([]api.RiverRiver, 1)} },
		"7 years":                func(b *api.RiverBook) { *b = longer(fullBook()) },
		"no rivers":              func(b *api.RiverBook) { b.Rivers = nil },
		"4 rivers":               func(b *api.RiverBook) { b.Rivers = slices.Repeat(b.Rivers, 2) },
		"many rivers":            func(b *api.RiverBook) { b.Rivers = slices.Repeat(b.Rivers, 100000) },
		"a Grow less":            func(b *api.RiverBook) { b.Rivers[1].Grow = b.Rivers[1].Grow[:3] },
		"a Grow more":            func(b *api.RiverBook) { b.Rivers[1].Grow = append(b.Rivers[1].Grow, only(5)) },
		"no Grow":                func(b *api.RiverBook) { b.Rivers[0].Grow = nil },
		"a Grow too wide":        func(b *api.RiverBook) { b.Rivers[1].Grow[0] = span(0, 5) },
		"a Grow to 41":           func(b *api.RiverBook) { b.Rivers[1].Grow[3] = span(40, 41) },
		"a Grow from 41":         func(b *api.RiverBook) { b.Rivers[1].Grow[3] = only(41) },
		"a Grow from -1":         func(b *api.RiverBook) { b.Rivers[0].Grow[2] = span(-1, 0) },
		"a Grow turned":          func(b *api.RiverBook) { b.Rivers[1].Grow[0] = span(2, 1) },
		"a Grow of all":          func(b *api.RiverBook) { b.Rivers[1].Grow[0] = span(-far-1, far) },
		"a Grow turned far":      func(b *api.RiverBook) { b.Rivers[1].Grow[0] = span(far, -far-1) },
		"a Vary of 4":            func(b *api.RiverBook) { b.Rivers[0].Vary = 4 },
		"a Vary of -1":           func(b *api.RiverBook) { b.Rivers[1].Vary = -1 },
		"a Vary far above":       func(b *api.RiverBook) { b.Rivers[1].Vary = far },
		"a Closed of -1":         func(b *api.RiverBook) { b.Rivers[0].Closed = -1 },
		"a Closed of the year 4": func(b *api.RiverBook) { b.Rivers[0].Closed = 16 },
		"a Closed of 4 and more": func(b *api.RiverBook) { b.Rivers[1].Closed = 31 },
		"a Closed far below":     func(b *api.RiverBook) { b.Rivers[1].Closed = -far - 1 },
		"a Closed far above":     func(b *api.RiverBook) { b.Rivers[1].Closed = far },
	} {
		bad[name] = changed(change)
	}
	return bad
}

// longer returns a book with a year more than it has.
func longer(b api.RiverBook) api.RiverBook {
	b.Years++
	for i := range b.Rivers {
		b.Rivers[i].Grow = append(b.Rivers[i].Grow, only(1))
	}
	return b
}

// badShells returns shells that are not as defined.
func badShells() map[string]api.RiverShell {
	return map[string]api.RiverShell{
		"nothing":          {},
		"no rings":         shell(1),
		"6 rings":          shell(0, 1, 2, 3, 4, 5, 6),
		"many rings":       shell(0, slices.Repeat(list(15, 9), 100000)...),
		"a ring of 61":     shell(0, 15, 61),
		"a ring of -1":     shell(3, -1),
		"a ring far above": shell(0, far),
		"a ring far below": shell(3, -far-1, 9),
		"an Off of 4":      shell(4, 15, 9),
		"an Off of -1":     shell(-1, 15, 9),
		"an Off far above": shell(far, 15, 9),
		"an Off far below": shell(-far-1, 15, 9),
	}
}

// badSacks returns sacks that are not as defined.
func badSacks() map[string]api.RiverSack {
	s := shellS()
	bad := map[string]api.RiverSack{
		"nothing":                {},
		"no shells":              {Tests: make([]api.RiverTest, 1)},
		"5 shells":               sack(s, s, s, s, s),
		"many shells":            sack(slices.Repeat([]api.RiverShell{s}, 100000)...),
		"7 tests":                {Shells: []api.RiverShell{s}, Tests: make([]api.RiverTest, 7)},
		"many tests":             {Shells: []api.RiverShell{s}, Tests: make([]api.RiverTest, 100000)},
		"a test of the shell 1":  tested(sack(s), 1, true),
		"a test of the shell 3":  tested(mixed(), 3, false),
		"a test of the shell -1": tested(sack(s), -1, true),
		"a test far above":       tested(tested(sack(s), 0, true), far, false),
		"a test far below":       tested(tested(sack(s), 0, true), -far-1, true),
	}
	for name, x := range badShells() {
		bad["a shell with "+name] = sack(s, x)
	}
	return bad
}

// size is how large a book by chance can be.
type size struct {
	years, rivers, wide, first, last, vary int
}

// small is the size of books of which all weather can be tried; large is that of any book.
func small() size { return size{3, 2, 2, 3, 8, 1} }

func large() size { return size{6, 3, 4, 0, 40, 3} }

// alike is the size of books whose years are much alike.
func alike() size { return size{6, 3, 4, 9, 18, 2} }

// wide is the size of books of which much is not known, so that the shells of a sack can prove much.
func wide() size { return size{3, 2, 4, 9, 14, 0} }

// bookBy returns a book by chance.
func bookBy(d *dice, s size) api.RiverBook {
	b := api.RiverBook{Years: d.from(1, s.years)}
	for range d.from(1, s.rivers) {
		r := api.RiverRiver{Vary: d.upTo(s.vary), Closed: d.upTo(1<<b.Years - 1)}
		for range b.Years {
			low := d.from(s.first, s.last)
			r.Grow = append(r.Grow, span(low, min(s.last, low+d.upTo(s.wide))))
		}
		b.Rivers = append(b.Rivers, r)
	}
	return b
}

// weatherBy returns weather by chance.
func weatherBy(d *dice, b api.RiverBook) [][]int {
	var w [][]int
	for _, r := range b.Rivers {
		var years []int
		for _, s := range r.Grow {
			years = append(years, d.in(s))
		}
		w = append(w, years)
	}
	return w
}

// caught returns a shell by chance that agrees with some weather, and an origin with which it does.
func caught(d *dice, b api.RiverBook, w [][]int) (api.RiverShell, api.RiverOrigin) {
	o := origin(d.upTo(len(b.Rivers)-1), d.upTo(b.Years-1))
	s := api.RiverShell{Off: d.upTo(api.RiverOff) * d.upTo(1)}
	rings := d.from(1, min(o.Year+1, api.RiverRings))
	for i := range rings {
		off := b.Rivers[o.River].Vary + s.Off
		s.Rings = append(s.Rings, max(0, w[o.River][o.Year+1-rings+i]+d.from(-off, off)))
	}
	return s, o
}

// sackBy returns a sack by chance with a truth of it.
func sackBy(d *dice, b api.RiverBook) (api.RiverSack, api.RiverTruth) {
	var s api.RiverSack
	x := api.RiverTruth{Weather: weatherBy(d, b)}
	for range d.from(1, api.RiverShells) {
		shell, o := caught(d, b, x.Weather)
		s.Shells, x.Origins = append(s.Shells, shell), append(x.Origins, o)
	}
	for range d.upTo(2) * d.upTo(1) {
		n := d.upTo(len(s.Shells) - 1)
		s = tested(s, n, isClosed(b, x.Origins[n]))
	}
	return s, x
}

// strange returns a sack that need not be possible: a ring of it or a test is another one.
func strange(d *dice, s api.RiverSack) api.RiverSack {
	s.Shells, s.Tests = slices.Clone(s.Shells), slices.Clone(s.Tests)
	n := d.upTo(len(s.Shells) - 1)
	s.Shells[n].Rings = slices.Clone(s.Shells[n].Rings)
	ring := &s.Shells[n].Rings[d.upTo(len(s.Shells[n].Rings)-1)]
	*ring = max(0, *ring+d.from(-4, 4))
	if d.upTo(1) == 0 {
		s = tested(s, n, d.upTo(1) == 0)
	}
	return s
}

func isClosed(b api.RiverBook, o api.RiverOrigin) bool {
	return b.Rivers[o.River].Closed&(1<<o.Year) != 0
}

// isOf reports whether a shell agrees with an origin and the weather.
func isOf(b api.RiverBook, s api.RiverShell, o api.RiverOrigin, w [][]int) bool {
	if o.River < 0 || o.River >= len(b.Rivers) || o.Year < 0 || o.Year >= b.Years {
		return false
	}
	year := o.Year
	for _, ring := range slices.Backward(s.Rings) {
		if year < 0 {
			return false
		}
		if off := b.Rivers[o.River].Vary + s.Off; ring-w[o.River][year] > off || w[o.River][year]-ring > off {
			return false
		}
		year--
	}
	return true
}

// isTruth reports whether something with all numbers is a truth of a sack.
func isTruth(b api.RiverBook, s api.RiverSack, x api.RiverTruth) bool {
	for river, years := range x.Weather {
		for year, n := range years {
			if grow := b.Rivers[river].Grow[year]; n < grow.Low || n > grow.High {
				return false
			}
		}
	}
	for i, o := range x.Origins {
		if !isOf(b, s.Shells[i], o, x.Weather) {
			return false
		}
	}
	for _, t := range s.Tests {
		if isClosed(b, x.Origins[t.Shell]) != t.Closed {
			return false
		}
	}
	return true
}

// weathers goes through all weather of a book, by trying all numbers.
func weathers(b api.RiverBook) iter.Seq[[][]int] {
	return func(yield func([][]int) bool) {
		w := make([][]int, len(b.Rivers))
		for river := range w {
			w[river] = make([]int, b.Years)
		}
		var set func(place int) bool
		set = func(place int) bool {
			if place == len(b.Rivers)*b.Years {
				return yield(w)
			}
			river, year := place/b.Years, place%b.Years
			for n := b.Rivers[river].Grow[year].Low; n <= b.Rivers[river].Grow[year].High; n++ {
				w[river][year] = n
				if !set(place + 1) {
					return false
				}
			}
			return true
		}
		set(0)
	}
}

// everywhere returns all origins of a book, in order.
func everywhere(b api.RiverBook) []api.RiverOrigin {
	var all []api.RiverOrigin
	for river := range b.Rivers {
		for year := range b.Years {
			all = append(all, origin(river, year))
		}
	}
	return all
}

// ends is the least and the greatest of what was found, if anything was.
type ends struct {
	any bool
	api.Span
}

func (s *ends) add(n int) {
	if !s.any {
		s.any, s.Span = true, only(n)
	}
	s.Span = span(min(s.Low, n), max(s.High, n))
}

// told is what is so in some truth of a sack.
type told struct {
	b       api.RiverBook
	origins []map[api.RiverOrigin]bool
	weather map[api.RiverOrigin]*ends
	mixes   map[int]bool // which shells are of closed years, as a set
}

func nothingTold(b api.RiverBook, s api.RiverSack) told {
	k := told{b: b, weather: map[api.RiverOrigin]*ends{}, mixes: map[int]bool{}}
	for range s.Shells {
		k.origins = append(k.origins, map[api.RiverOrigin]bool{})
	}
	for _, o := range everywhere(b) {
		k.weather[o] = &ends{}
	}
	return k
}

// add adds what is so in truths with some origins, but for the weather.
func (k *told) add(from []api.RiverOrigin) {
	mix := 0
	for i, o := range from {
		k.origins[i][o] = true
		if isClosed(k.b, o) {
			mix |= 1 << i
		}
	}
	k.mixes[mix] = true
}

// tried returns what is so of a sack with a small book, by trying all truths.
func tried(b api.RiverBook, s api.RiverSack) told {
	k := nothingTold(b, s)
	x := api.RiverTruth{Origins: make([]api.RiverOrigin, len(s.Shells))}
	all := everywhere(b)
	var place func(n int)
	place = func(n int) {
		if n < len(s.Shells) {
			for _, o := range all {
				if isOf(b, s.Shells[n], o, x.Weather) {
					x.Origins[n] = o
					place(n + 1)
				}
			}
			return
		}
		if !isTruth(b, s, x) {
			return
		}
		k.add(x.Origins)
		for _, o := range all {
			k.weather[o].add(x.Weather[o.River][o.Year])
		}
	}
	for w := range weathers(b) {
		x.Weather = w
		place(0)
	}
	return k
}

// numbersOf returns the numbers that agree with a span and a ring that is off, as a set.
func numbersOf(s api.Span, ring, off int) uint64 {
	set := uint64(0)
	for n := s.Low; n <= s.High; n++ {
		if n-ring <= off && ring-n <= off {
			set |= 1 << n
		}
	}
	return set
}

// followed returns what is so of a sack, by trying all origins; each year of a river has a set of numbers that are left.
func followed(b api.RiverBook, s api.RiverSack) told {
	k := nothingTold(b, s)
	all := everywhere(b)
	left := map[api.RiverOrigin]uint64{}
	for _, o := range all {
		left[o] = numbersOf(b.Rivers[o.River].Grow[o.Year], 0, far)
	}
	from := make([]api.RiverOrigin, len(s.Shells))
	var place func(n int)
	place = func(n int) {
		if n == len(s.Shells) {
			if slices.ContainsFunc(s.Tests, func(t api.RiverTest) bool { return isClosed(b, from[t.Shell]) != t.Closed }) {
				return
			}
			k.add(from)
			for o, set := range left {
				k.weather[o].add(bits.TrailingZeros64(set))
				k.weather[o].add(bits.Len64(set) - 1)
			}
			return
		}
		for _, o := range all {
			rings := s.Shells[n].Rings
			if o.Year+1 < len(rings) {
				continue
			}
			before := map[api.RiverOrigin]uint64{}
			agrees := true
			for i, ring := range rings {
				at := origin(o.River, o.Year+1-len(rings)+i)
				before[at] = left[at]
				left[at] &= numbersOf(b.Rivers[at.River].Grow[at.Year], ring, b.Rivers[at.River].Vary+s.Shells[n].Off)
				agrees = agrees && left[at] != 0
			}
			if agrees {
				from[n] = o
				place(n + 1)
			}
			for at, set := range before {
				left[at] = set
			}
		}
	}
	place(0)
	return k
}

func (k told) isPossible() bool { return len(k.mixes) > 0 }

// from returns the origins of a shell, in order.
func (k told) from(shell int) []api.RiverOrigin {
	var some []api.RiverOrigin
	for _, o := range everywhere(k.b) {
		if k.origins[shell][o] {
			some = append(some, o)
		}
	}
	return some
}

// spans returns between which ends the weather lies.
func (k told) spans() [][]api.Span {
	var w [][]api.Span
	for river := range k.b.Rivers {
		var years []api.Span
		for year := range k.b.Years {
			years = append(years, k.weather[origin(river, year)].Span)
		}
		w = append(w, years)
	}
	return w
}

// closed returns the least and the greatest number of shells of closed years.
func (k told) closed() api.Span {
	var s ends
	for mix := range k.mixes {
		s.add(bits.OnesCount(uint(mix)))
	}
	return s.Span
}

// after returns the mixes that are left after a test.
func after(mixes map[int]bool, shell int, closed bool) map[int]bool {
	left := map[int]bool{}
	for mix := range mixes {
		if mix>>shell&1 == 1 == closed {
			left[mix] = true
		}
	}
	return left
}

// needed returns the best shell to test, and the tests that are needed, as the chapter defines them; 0 tests if it is known.
func needed(mixes map[int]bool, many int) (shell, tests int) {
	counts := map[bool]bool{}
	for mix := range mixes {
		counts[bits.OnesCount(uint(mix)) >= many] = true
	}
	if len(counts) < 2 {
		return 0, 0
	}
	for n := range api.RiverShells {
		open, closed := after(mixes, n, false), after(mixes, n, true)
		if len(open) == 0 || len(closed) == 0 {
			continue
		}
		_, one := needed(open, many)
		_, other := needed(closed, many)
		if most := 1 + max(one, other); tests == 0 || most < tests {
			shell, tests = n, most
		}
	}
	return shell, tests
}

// sealed returns a text of lines, with the right CHECK.
func sealed(lines ...string) string {
	total := 0
	for n, line := range lines {
		for i, mark := range []byte(line) {
			total += int(mark) * (i + 1) * (n + 1)
		}
	}
	rest := total % 131
	digits := string([]byte{byte('0' + rest/100), byte('0' + rest/10%10), byte('0' + rest%10)})
	return strings.Join(append(slices.Clone(lines), "end "+digits), "\n") + "\n"
}

// sameBook reports whether two books are equal; nil and empty lists are.
func sameBook(a, b api.RiverBook) bool {
	return a.Years == b.Years && slices.EqualFunc(a.Rivers, b.Rivers, func(r, s api.RiverRiver) bool {
		return r.Vary == s.Vary && r.Closed == s.Closed && slices.Equal(r.Grow, s.Grow)
	})
}

// sameSpans reports whether two lists of lists are equal.
func sameSpans(a, b [][]api.Span) bool {
	return slices.EqualFunc(a, b, func(x, y []api.Span) bool { return slices.Equal(x, y) })
}

// isPart reports whether all of some things are among others.
func isPart[T comparable](some, all []T) bool {
	return !slices.ContainsFunc(some, func(x T) bool { return !slices.Contains(all, x) })
}

// empty reports whether a result is a zero value, or an empty list.
func empty(x any) bool {
	v := reflect.ValueOf(x)
	switch v.Kind() {
	case reflect.Slice:
		return v.Len() == 0
	case reflect.Struct:
		for i := range v.NumField() {
			if !empty(v.Field(i).Interface()) {
				return false
			}
		}
		return true
	}
	return v.IsZero()
}

// wantError fails unless a call has an error, and zero values with it.
func wantError(t *testing.T, name string, got, want api.Errno, results ...any) {
	t.Helper()
	if got != want {
		t.Errorf("%s: error %d, want %d", name, got, want)
	}
	for _, x := range results {
		if want != api.OK && !empty(x) {
			t.Errorf("%s: %v with the error %d", name, x, got)
		}
	}
}
