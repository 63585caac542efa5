package dye_test

import (
	"reflect"
	"slices"
	"strconv"
	"strings"
	"testing"

	"nacre/api"
)

// dice gives numbers that look random, and are the same each time.
type dice uint64

func (d *dice) upTo(n int) int {
	*d = *d*6364136223846793005 + 1442695040888963407
	return int(uint64(*d)>>33) % (n + 1)
}

func (d *dice) from(low, high int) int { return low + d.upTo(high-low) }

// in returns a number of a span by chance.
func (d *dice) in(s api.Span) int { return d.from(s.Low, s.High) }

// span returns a span by chance from low to high, and at most so wide.
func (d *dice) span(low, high, wide int) api.Span {
	n := d.from(low, high)
	return span(n, d.from(n, min(high, n+wide)))
}

// within returns a span by chance that lies in another one.
func (d *dice) within(s api.Span) api.Span {
	low := d.in(s)
	return span(low, d.from(low, s.High))
}

type baths = []api.DyeBath

func span(low, high int) api.Span { return api.Span{Low: low, High: high} }

func only(n int) api.Span { return span(n, n) }

func bath(dye, temper, low, high int) api.DyeBath {
	return api.DyeBath{Dye: dye, Temper: temper, Hours: span(low, high)}
}

func dyeOf(full int, takes ...api.Span) api.DyeDye { return api.DyeDye{Takes: takes, Full: full} }

func houseOf(dyes ...api.DyeDye) api.DyeHouse { return api.DyeHouse{Dyes: dyes} }

func lamp(weights ...int) api.DyeLamp { return api.DyeLamp{Weights: weights} }

func stock(l baths, many, price int) api.DyeStock {
	return api.DyeStock{Baths: l, Many: many, Price: price}
}

// houseH returns the house h of the chapter.
func houseH() api.DyeHouse {
	return houseOf(dyeOf(40, span(2, 3), only(5), span(8, 10)), dyeOf(20, only(1), only(2), only(4)))
}

// batchA and batchB return the batches of the chapter.
func batchA() baths { return baths{bath(0, 0, 4, 5), bath(1, 1, 3, 3)} }

func batchB() baths { return baths{bath(0, 0, 5, 5)} }

func day() api.DyeLamp { return lamp(1, 1) }

func gas() api.DyeLamp { return lamp(1, -2) }

// coatC returns the coat of the chapter.
func coatC() api.DyeCoat {
	return api.DyeCoat{Lamps: []api.DyeLamp{day(), gas()}, Eye: only(6), Old: []api.Span{span(12, 14), span(10, 12)}, Need: 3}
}

// stocksC returns the stocks of the chapter.
func stocksC() []api.DyeStock {
	return []api.DyeStock{stock(batchB(), 2, 5), stock(baths{bath(0, 1, 2, 2)}, 3, 9), stock(batchB(), 2, 4)}
}

// sorterS returns the sorter s of the chapter.
func sorterS() api.DyeSorter {
	return api.DyeSorter{Eye: span(2, 3), Tire: 1, Looks: []api.Span{span(10, 12), span(13, 14), only(17)}}
}

// fullHouse returns a house with as many dyes as there can be, and stocks with the longest text that there is.
func fullHouse() (api.DyeHouse, []api.DyeStock) {
	h := houseOf(slices.Repeat([]api.DyeDye{dyeOf(100, span(18, 20), only(20), span(19, 20))}, 3)...)
	return h, slices.Repeat([]api.DyeStock{stock(slices.Repeat(baths{bath(2, 2, 10, 12)}, 3), 99, 999)}, 5)
}

// badHouses returns houses that are not as defined.
func badHouses() map[string]api.DyeHouse {
	bad := map[string]api.DyeHouse{
		"no dyes":        {},
		"4 dyes":         houseOf(slices.Repeat(houseH().Dyes, 2)...),
		"many dyes":      houseOf(slices.Repeat(houseH().Dyes, 500000)...),
		"a Full of 101":  houseOf(dyeOf(101, only(1), only(1), only(1))),
		"a Full of -1":   houseOf(dyeOf(-1, only(1), only(1), only(1))),
		"no Takes":       houseOf(dyeOf(5)),
		"2 tempers":      houseOf(dyeOf(5, only(1), only(1))),
		"4 tempers":      houseOf(dyeOf(5, only(1), only(1), only(1), only(1))),
		"a bad last one": houseOf(append(houseH().Dyes, dyeOf(5, only(1), only(1)))...),
	}
	for name, s := range map[string]api.Span{
		"-1 to 0": span(-1, 0), "20 to 21": span(20, 21), "21 to 21": only(21), "2 to 1": span(2, 1), "1 to 4": span(1, 4),
		"far apart": span(-1<<63, 1<<63-1), "far apart, turned": span(1<<63-1, -1<<63),
	} {
		for temper := range 3 {
			takes := []api.Span{only(1), only(1), only(1)}
			takes[temper] = s
			name := "Takes of " + name + " at the temper " + strconv.Itoa(temper)
			bad[name] = houseOf(dyeOf(5, takes...))
			bad[name+" of the dye 1"] = houseOf(houseH().Dyes[0], dyeOf(5, takes...))
		}
	}
	return bad
}

// badBatches returns batches that are not as defined, of the house h.
func badBatches() map[string]baths {
	return map[string]baths{
		"4 baths":          slices.Repeat(batchB(), 4),
		"many baths":       slices.Repeat(batchB(), 1000000),
		"the dye 2":        {bath(2, 0, 1, 1)},
		"the dye -1":       {bath(-1, 0, 1, 1)},
		"the temper 3":     {bath(0, 3, 1, 1)},
		"the temper -1":    {bath(0, -1, 1, 1)},
		"hours from -1":    {bath(0, 0, -1, 1)},
		"hours to 13":      {bath(0, 0, 12, 13)},
		"hours turned":     {bath(0, 0, 2, 1)},
		"hours of 1 to 4":  {bath(0, 0, 1, 4)},
		"hours of all":     {bath(0, 0, -1<<63, 1<<63-1)},
		"a bad second one": {bath(0, 0, 1, 1), bath(1, 3, 1, 1)},
	}
}

// badLamps returns lamps that are not as defined, for the house h.
func badLamps() map[string]api.DyeLamp {
	return map[string]api.DyeLamp{
		"no weights": {}, "a weight less": lamp(1), "a weight more": lamp(1, 1, 1),
		"a weight of 10": lamp(10, 1), "a weight of -10": lamp(1, -10),
	}
}

// badEyes returns spans that are no eyes.
func badEyes() []api.Span {
	return []api.Span{span(-1, 0), span(200, 201), only(201), span(3, 2), span(0, 5), span(1<<63-1, -1<<63)}
}

// houseBy returns a house by chance; of its dyes at most so many numbers are not known.
func houseBy(d *dice, open int) api.DyeHouse {
	var h api.DyeHouse
	for range d.from(1, api.DyeKinds) {
		var x api.DyeDye
		for range api.DyeTempers {
			x.Takes = append(x.Takes, d.opened(&open, d.from(4, api.DyeTake), api.DyeDrift))
		}
		x.Full = []int{d.upTo(20), d.from(20, api.DyeFull), api.DyeFull}[d.upTo(2)]
		h.Dyes = append(h.Dyes, x)
	}
	return h
}

// batchBy returns a batch by chance of a house, with at least so many baths less than there can be; of their hours at most so many are not known.
func batchBy(d *dice, h api.DyeHouse, less, open int) baths {
	var l baths
	for range d.upTo(api.DyeBaths - less) {
		l = append(l, api.DyeBath{Dye: d.upTo(len(h.Dyes) - 1), Temper: d.upTo(2), Hours: d.opened(&open, d.from(1, api.DyeHours), api.DyeLate)})
	}
	return l
}

// opened returns a span by chance from 0 to most: of one number, if no more can be open.
func (d *dice) opened(open *int, most, wide int) api.Span {
	if *open == 0 {
		wide = 0
	} else {
		*open--
	}
	return d.span(0, most, wide)
}

func lampBy(d *dice, h api.DyeHouse) api.DyeLamp {
	var x api.DyeLamp
	for range h.Dyes {
		x.Weights = append(x.Weights, d.from(-api.DyeWeight, api.DyeWeight))
	}
	return x
}

func lampsBy(d *dice, h api.DyeHouse) []api.DyeLamp {
	var l []api.DyeLamp
	for range d.from(1, api.DyeLamps) {
		l = append(l, lampBy(d, h))
	}
	return l
}

// world is a truth of a house and of some batches together: the hours are batch by batch.
type world struct {
	takes [][]int
	hours [][]int
}

// worlds returns all truths of a house and of some batches together, by trying all numbers.
func worlds(h api.DyeHouse, batches ...baths) []world {
	var spans []api.Span
	for _, x := range h.Dyes {
		spans = append(spans, x.Takes...)
	}
	for _, l := range batches {
		for _, b := range l {
			spans = append(spans, b.Hours)
		}
	}
	var found []world
	for _, numbers := range allNumbers(spans) {
		var w world
		for range h.Dyes {
			w.takes = append(w.takes, numbers[:3])
			numbers = numbers[3:]
		}
		for _, l := range batches {
			w.hours = append(w.hours, numbers[:len(l)])
			numbers = numbers[len(l):]
		}
		found = append(found, w)
	}
	return found
}

// allNumbers returns all lists with a number of each span.
func allNumbers(spans []api.Span) [][]int {
	all := [][]int{nil}
	for _, s := range spans {
		var longer [][]int
		for _, l := range all {
			for n := s.Low; n <= s.High; n++ {
				longer = append(longer, append(slices.Clone(l), n))
			}
		}
		all = longer
	}
	return all
}

// worldBy returns one truth by chance of a house and of some batches.
func worldBy(d *dice, h api.DyeHouse, batches ...baths) world {
	var w world
	for _, x := range h.Dyes {
		var takes []int
		for _, s := range x.Takes {
			takes = append(takes, d.in(s))
		}
		w.takes = append(w.takes, takes)
	}
	for _, l := range batches {
		var hours []int
		for _, b := range l {
			hours = append(hours, d.in(b.Hours))
		}
		w.hours = append(w.hours, hours)
	}
	return w
}

// truth returns the truth of one of the batches of a world.
func (w world) truth(batch int) api.DyeTruth {
	return api.DyeTruth{Takes: w.takes, Hours: w.hours[batch]}
}

// depths returns the depth of each dye in one of the batches of a world.
func (w world) depths(h api.DyeHouse, l baths, batch int) []int {
	depths := make([]int, len(h.Dyes))
	for i, b := range l {
		depths[b.Dye] += w.hours[batch][i] * w.takes[b.Dye][b.Temper]
	}
	for i, x := range h.Dyes {
		depths[i] = min(depths[i], x.Full)
	}
	return depths
}

// look returns the look of one of the batches of a world under a lamp.
func (w world) look(h api.DyeHouse, x api.DyeLamp, l baths, batch int) int {
	look := 0
	for i, depth := range w.depths(h, l, batch) {
		look += x.Weights[i] * depth
	}
	return look
}

// apart returns the look of the first batch of a world less that of the second one.
func (w world) apart(h api.DyeHouse, x api.DyeLamp, a, b baths) int {
	return w.look(h, x, a, 0) - w.look(h, x, b, 1)
}

// ends returns the least and the greatest number that worlds give.
func ends(all []world, give func(world) int) api.Span {
	s := only(give(all[0]))
	for _, w := range all {
		s = span(min(s.Low, give(w)), max(s.High, give(w)))
	}
	return s
}

// size returns how far a number is from 0.
func size(n int) int { return max(n, -n) }

// holds reports whether a number lies in a span.
func holds(s api.Span, n int) bool { return s.Low <= n && n <= s.High }

// isIn reports whether a span lies in another one.
func isIn(s, other api.Span) bool { return other.Low <= s.Low && s.High <= other.High }

// sealed returns a text of lines, with the right CHECK.
func sealed(lines ...string) string {
	total := 0
	for _, line := range lines {
		for i, mark := range []byte(line) {
			total += int(mark) * (i + 1)
		}
	}
	rest := total % 113
	digits := string([]byte{byte('0' + rest/100), byte('0' + rest/10%10), byte('0' + rest%10)})
	return strings.Join(append(slices.Clone(lines), "end "+digits), "\n") + "\n"
}

// sameHouse reports whether two houses are equal; nil and empty lists are.
func sameHouse(a, b api.DyeHouse) bool {
	return slices.EqualFunc(a.Dyes, b.Dyes, func(x, y api.DyeDye) bool { return x.Full == y.Full && slices.Equal(x.Takes, y.Takes) })
}

// sameStocks reports whether stocks are equal; nil and empty lists are.
func sameStocks(a, b []api.DyeStock) bool {
	return slices.EqualFunc(a, b, func(x, y api.DyeStock) bool {
		return x.Many == y.Many && x.Price == y.Price && slices.Equal(x.Baths, y.Baths)
	})
}

// empty reports whether a result is a zero value, or an empty list.
func empty(x any) bool {
	v := reflect.ValueOf(x)
	switch v.Kind() {
	case reflect.Slice:
		return v.Len() == 0
	case reflect.Struct:
		for i := range v.NumField() {
			if !empty(v.Field(i).Interface()) {
				return false
			}
		}
		return true
	}
	return v.IsZero()
}

// wantError fails unless a call has an error, and zero values with it.
func wantError(t *testing.T, name string, got, want api.Errno, results ...any) {
	t.Helper()
	if got != want {
		t.Errorf("%s: error %d, want %d", name, got, want)
	}
	for _, x := range results {
		if want != api.OK && !empty(x) {
			t.Errorf("%s: %v with the error %d", name, x, got)
		}
	}
}
