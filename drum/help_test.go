package drum_test

import (
	"reflect"
	"slices"
	"strings"
	"testing"

	"nacre/api"
	"nacre/drum"
)

// dice gives numbers that look random, and are the same each time.
type dice uint64

func (d *dice) upTo(n int) int {
	*d = *d*6364136223846793005 + 1442695040888963407
	return int(uint64(*d)>>33) % (n + 1)
}

func (d *dice) from(low, high int) int { return low + d.upTo(high-low) }

// in returns a number of a span by chance.
func (d *dice) in(s api.Span) int { return d.from(s.Low, s.High) }

// span returns a span by chance that ends at most at a number, and is at most so wide.
func (d *dice) span(most, wide int) api.Span {
	low := d.upTo(most)
	return span(low, d.from(low, min(most, low+wide)))
}

func span(low, high int) api.Span { return api.Span{Low: low, High: high} }

func acid(low, high, least, most int) api.DrumAcid {
	return api.DrumAcid{Strength: span(low, high), Fall: span(least, most)}
}

func strip(hour, seen, off int) api.DrumStrip { return api.DrumStrip{Hour: hour, Seen: seen, Off: off} }

func batch(rough, goal, thick, least, polish, eat int) api.DrumBatch {
	return api.DrumBatch{Rough: rough, Goal: goal, Thick: thick, Least: least, Polish: polish, Eat: eat}
}

func truth(acid int, strength ...int) api.DrumTruth {
	return api.DrumTruth{Acid: acid, Strength: strength}
}

// changed returns the drum d of the chapter with a change.
func changed(change func(*api.DrumDrum)) api.DrumDrum {
	d := api.DrumDrum{
		Acids:   []api.DrumAcid{acid(40, 50, 5, 5), acid(60, 80, 10, 20)},
		Known:   3,
		Hours:   4,
		Adds:    make([]int, 4),
		Strips:  []api.DrumStrip{strip(1, 40, 5)},
		Batches: []api.DrumBatch{batch(100, 30, 200, 150, 100, 40), batch(60, 30, 100, 70, 50, 20), batch(20, 20, 50, 30, 10, 40)},
	}
	change(&d)
	return d
}

// drumD, drumE, drumF and drumG return the drums of the chapter.
func drumD() api.DrumDrum { return changed(func(*api.DrumDrum) {}) }

func drumE() api.DrumDrum {
	return changed(func(d *api.DrumDrum) { d.Batches = d.Batches[:2] })
}

func drumF() api.DrumDrum {
	return changed(func(d *api.DrumDrum) { d.Batches = []api.DrumBatch{batch(200, 60, 300, 100, 100, 50)} })
}

func drumG() api.DrumDrum {
	return changed(func(d *api.DrumDrum) { d.Strips[0].Seen = 60 })
}

// torn returns a drum that is not possible.
func torn() api.DrumDrum {
	return changed(func(d *api.DrumDrum) { d.Strips[0].Seen = 100 })
}

// plain returns a drum of one acid that does not fall and is so strong, for some hours, with batches.
func plain(strength, hours int, batches ...api.DrumBatch) api.DrumDrum {
	return api.DrumDrum{Acids: []api.DrumAcid{acid(strength, strength, 0, 0)}, Known: 1, Hours: hours, Adds: make([]int, hours), Batches: batches}
}

// full returns a drum with the longest slip that there is.
func full() api.DrumDrum {
	return api.DrumDrum{
		Acids:   slices.Repeat([]api.DrumAcid{acid(100, 100, 10, 20)}, 4),
		Known:   15,
		Hours:   12,
		Adds:    slices.Repeat([]int{100}, 12),
		Strips:  slices.Repeat([]api.DrumStrip{strip(11, 1000, 50)}, 6),
		Batches: slices.Repeat([]api.DrumBatch{batch(1000, 1000, 1000, 1000, 100, 100)}, 5),
	}
}

// badDrums returns changes of the drum d by which it is not as defined.
func badDrums() map[string]func(*api.DrumDrum) {
	bad := map[string]func(*api.DrumDrum){
		"no acids":              func(d *api.DrumDrum) { d.Acids = nil },
		"no acids and no known": func(d *api.DrumDrum) { d.Acids, d.Known = nil, 0 },
		"5 acids":               func(d *api.DrumDrum) { d.Acids = slices.Repeat(d.Acids, 3)[:5] },
		"70 acids":              func(d *api.DrumDrum) { d.Acids = slices.Repeat(d.Acids, 35) },
		"none known":            func(d *api.DrumDrum) { d.Known = 0 },
		"a third known":         func(d *api.DrumDrum) { d.Known = 4 },
		"a third known too":     func(d *api.DrumDrum) { d.Known = 7 },
		"known below 0":         func(d *api.DrumDrum) { d.Known = -1 },
		"no hours":              func(d *api.DrumDrum) { d.Hours, d.Adds, d.Strips = 0, nil, nil },
		"hours below 0":         func(d *api.DrumDrum) { d.Hours = -1 },
		"13 hours":              func(d *api.DrumDrum) { d.Hours, d.Adds = 13, make([]int, 13) },
		"an add less":           func(d *api.DrumDrum) { d.Adds = d.Adds[:3] },
		"an add more":           func(d *api.DrumDrum) { d.Adds = make([]int, 5) },
		"an add of 101":         func(d *api.DrumDrum) { d.Adds[3] = 101 },
		"an add of -1":          func(d *api.DrumDrum) { d.Adds[2] = -1 },
		"7 strips":              func(d *api.DrumDrum) { d.Strips = slices.Repeat(d.Strips, 7) },
		"no batches":            func(d *api.DrumDrum) { d.Batches = nil },
		"6 batches":             func(d *api.DrumDrum) { d.Batches = slices.Repeat(d.Batches, 2) },
	}
	for name, s := range map[string]api.DrumStrip{
		"the hour 4": strip(4, 40, 5), "the hour -1": strip(-1, 40, 5), "seen -1": strip(1, -1, 50),
		"seen 2001": strip(1, 2001, 5), "off by 51": strip(1, 40, 51), "off by -1": strip(1, 40, -1),
	} {
		bad["a strip of "+name] = func(d *api.DrumDrum) { d.Strips[0] = s }
		bad["a second strip of "+name] = func(d *api.DrumDrum) { d.Strips = append(d.Strips, s) }
	}
	for name, a := range map[string]api.DrumAcid{
		"a strength upside down": acid(50, 49, 5, 5), "a strength of 101": acid(40, 101, 5, 5), "a strength of -1": acid(-1, 50, 5, 5),
		"a fall upside down": acid(40, 50, 5, 4), "a fall of 21": acid(40, 50, 5, 21), "a fall of -1": acid(40, 50, -1, 5),
	} {
		bad[name] = func(d *api.DrumDrum) { d.Acids[0] = a }
		bad[name+" of an acid that is not known"] = func(d *api.DrumDrum) { d.Acids[1], d.Known = a, 1 }
	}
	most := [...]int{1000, 1000, 1000, 1000, 100, 100}
	for i, name := range []string{"Rough", "Goal", "Thick", "Least", "Polish", "Eat"} {
		for what, n := range map[string]int{" below 0": -1, " that is too much": most[i] + 1} {
			numbers := [6]int{1, 1, 1, 1, 1, 1}
			numbers[i] = n
			b := batch(numbers[0], numbers[1], numbers[2], numbers[3], numbers[4], numbers[5])
			bad["a "+name+what] = func(d *api.DrumDrum) { d.Batches[2] = b }
		}
	}
	return bad
}

// drumBy returns a drum by chance with few truths, one of which is returned too: its strips agree with that.
func drumBy(d *dice) (api.DrumDrum, api.DrumTruth) {
	x := api.DrumDrum{Hours: d.from(1, 4)}
	most := []int{6, 30, api.DrumStrength}[d.upTo(2)]
	for range d.from(1, api.DrumAcids) {
		a := api.DrumAcid{Strength: d.span(most, 3), Fall: d.span(min(most/2, api.DrumFall), 2)}
		x.Acids = append(x.Acids, a)
	}
	x.Known = d.from(1, 1<<len(x.Acids)-1)
	for range x.Hours {
		x.Adds = append(x.Adds, d.upTo(2)*d.upTo(most)/3)
	}
	y := truthBy(d, x)
	for range d.upTo(3) {
		x.Strips = append(x.Strips, stripOf(d, y, 4))
	}
	for range d.from(1, api.DrumBatches) {
		x.Batches = append(x.Batches, batchBy(d, y))
	}
	return x, y
}

// bigDrum returns a drum by chance that has far too many truths to try them, and one of them.
func bigDrum(d *dice) (api.DrumDrum, api.DrumTruth) {
	x := api.DrumDrum{Hours: d.from(5, api.DrumHours)}
	for range d.from(1, api.DrumAcids) {
		x.Acids = append(x.Acids, api.DrumAcid{Strength: d.span(api.DrumStrength, 40), Fall: d.span(api.DrumFall, 10)})
	}
	x.Known = d.from(1, 1<<len(x.Acids)-1)
	most := []int{0, 10, api.DrumAdd}[d.upTo(2)]
	for range x.Hours {
		x.Adds = append(x.Adds, d.upTo(most))
	}
	y := truthBy(d, x)
	for range d.upTo(api.DrumStrips) {
		x.Strips = append(x.Strips, stripOf(d, y, api.DrumOff))
	}
	for range d.from(1, api.DrumBatches) {
		x.Batches = append(x.Batches, batchBy(d, y))
	}
	return x, y
}

// truthBy returns a truth by chance of a drum without strips.
func truthBy(d *dice, x api.DrumDrum) api.DrumTruth {
	var known []int
	for n := range x.Acids {
		if x.Known>>n&1 == 1 {
			known = append(known, n)
		}
	}
	y := truth(known[d.upTo(len(known)-1)])
	a := x.Acids[y.Acid]
	for hour, add := range x.Adds {
		n := d.in(a.Strength)
		if hour > 0 {
			n = max(0, y.Strength[hour-1]-d.in(a.Fall))
		}
		y.Strength = append(y.Strength, n+add)
	}
	return y
}

// stripOf returns a strip by chance, off by at most so much, that agrees with a truth.
func stripOf(d *dice, y api.DrumTruth, off int) api.DrumStrip {
	hour, by := d.upTo(len(y.Strength)-1), d.upTo(off)
	return strip(hour, max(0, y.Strength[hour]+d.from(-by, by)), by)
}

// batchBy returns a batch by chance that most often is smooth in time in some truth, and thick enough for some hours.
func batchBy(d *dice, y api.DrumTruth) api.DrumBatch {
	b := batch(0, 0, 0, 0, d.upTo(api.DrumRate), d.upTo(api.DrumRate))
	rough, thin := 0, 0
	for _, n := range y.Strength {
		rough, thin = rough+n*b.Polish/100, thin+n*b.Eat/100
	}
	b.Goal = d.upTo(5)
	b.Rough = min(api.DrumMost, b.Goal+d.upTo(rough))
	b.Least = d.upTo(5)
	b.Thick = min(api.DrumMost, b.Least+d.upTo(thin+1))
	return b
}

// allTruths returns all truths of a drum, by trying all numbers.
func allTruths(d api.DrumDrum) []api.DrumTruth {
	var found []api.DrumTruth
	for n, a := range d.Acids {
		if d.Known>>n&1 == 0 {
			continue
		}
		var walk []int
		var try func(left int)
		try = func(left int) {
			hour := len(walk)
			strength := left + d.Adds[hour]
			for _, s := range d.Strips {
				if s.Hour == hour && (strength-s.Seen > s.Off || s.Seen-strength > s.Off) {
					return
				}
			}
			walk = append(walk, strength)
			if len(walk) == d.Hours {
				found = append(found, truth(n, slices.Clone(walk)...))
			} else {
				for fall := a.Fall.Low; fall <= a.Fall.High; fall++ {
					try(max(0, strength-fall))
				}
			}
			walk = walk[:hour]
		}
		for left := a.Strength.Low; left <= a.Strength.High; left++ {
			try(left)
		}
	}
	return found
}

// acidsOf returns the acids of some truths, in increasing order.
func acidsOf(truths []api.DrumTruth) []int {
	var l []int
	for _, y := range truths {
		l = append(l, y.Acid)
	}
	slices.Sort(l)
	return slices.Compact(l)
}

// with returns the truths that have an acid.
func with(acid int, truths []api.DrumTruth) []api.DrumTruth {
	return slices.DeleteFunc(slices.Clone(truths), func(y api.DrumTruth) bool { return y.Acid != acid })
}

// ends returns the least and the greatest number that truths give.
func ends(truths []api.DrumTruth, give func(api.DrumTruth) int) api.Span {
	s := span(give(truths[0]), give(truths[0]))
	for _, y := range truths {
		s = span(min(s.Low, give(y)), max(s.High, give(y)))
	}
	return s
}

// strengthAt returns the least and the greatest strength of an hour, over truths.
func strengthAt(truths []api.DrumTruth, hour int) api.Span {
	return ends(truths, func(y api.DrumTruth) int { return y.Strength[hour] })
}

// stateAfter returns how rough and how thick a batch is after some hours, hour by hour.
func stateAfter(b api.DrumBatch, y api.DrumTruth, hours int) api.DrumState {
	s := api.DrumState{Rough: b.Rough, Thick: b.Thick}
	for _, n := range y.Strength[:hours] {
		s.Rough = max(0, s.Rough-n*b.Polish/100)
		s.Thick = max(0, s.Thick-n*b.Eat/100)
	}
	return s
}

// boundsAfter returns between which bounds a batch is after some hours, over truths.
func boundsAfter(b api.DrumBatch, truths []api.DrumTruth, hours int) api.DrumBounds {
	return api.DrumBounds{
		Rough: ends(truths, func(y api.DrumTruth) int { return stateAfter(b, y, hours).Rough }),
		Thick: ends(truths, func(y api.DrumTruth) int { return stateAfter(b, y, hours).Thick }),
	}
}

// isFine reports whether a batch surely is smooth after some hours, and whether it surely is thick enough.
func isFine(b api.DrumBatch, truths []api.DrumTruth, hours int) (smooth, thick bool) {
	s := boundsAfter(b, truths, hours)
	return s.Rough.High <= b.Goal, s.Thick.Low >= b.Least
}

// fineHours returns the hours after which all of some batches surely are smooth and thick enough, by trying all hours.
func fineHours(d api.DrumDrum, truths []api.DrumTruth, batches ...int) []int {
	var hours []int
	for hour := range d.Hours + 1 {
		fine := true
		for _, n := range batches {
			smooth, thick := isFine(d.Batches[n], truths, hour)
			fine = fine && smooth && thick
		}
		if fine {
			hours = append(hours, hour)
		}
	}
	return hours
}

// allLists returns all lists of so many numbers that are less than another one, in lexicographic order.
func allLists(many, below int) [][]int {
	lists := [][]int{nil}
	for range many {
		var longer [][]int
		for _, l := range lists {
			for n := range below {
				longer = append(longer, append(slices.Clone(l), n))
			}
		}
		lists = longer
	}
	return lists
}

// increasing returns all increasing lists of so many numbers that are less than another one, in lexicographic order.
func increasing(many, below int) [][]int {
	return slices.DeleteFunc(allLists(many, below), func(l []int) bool {
		for i := range len(l) - 1 {
			if l[i] >= l[i+1] {
				return true
			}
		}
		return false
	})
}

// sealed returns a text of lines, with the right CHECK.
func sealed(lines ...string) string {
	total := 0
	for _, line := range lines {
		for i, mark := range []byte(line) {
			total += int(mark) * (i + 1)
		}
	}
	rest := total % 103
	digits := string([]byte{byte('0' + rest/100), byte('0' + rest/10%10), byte('0' + rest%10)})
	return strings.Join(append(slices.Clone(lines), "end "+digits), "\n") + "\n"
}

// sameDrum reports whether two drums are equal; nil and empty lists are.
func sameDrum(a, b api.DrumDrum) bool {
	return slices.Equal(a.Acids, b.Acids) && a.Known == b.Known && a.Hours == b.Hours && slices.Equal(a.Adds, b.Adds) && slices.Equal(a.Strips, b.Strips) && slices.Equal(a.Batches, b.Batches)
}

// empty reports whether a result is a zero value, or an empty list.
func empty(x any) bool {
	v := reflect.ValueOf(x)
	switch v.Kind() {
	case reflect.Slice:
		return v.Len() == 0
	case reflect.Struct:
		for i := range v.NumField() {
			if !empty(v.Field(i).Interface()) {
				return false
			}
		}
		return true
	}
	return v.IsZero()
}

// wantError fails unless a call has an error, and zero values with it.
func wantError(t *testing.T, name string, got, want api.Errno, results ...any) {
	t.Helper()
	if got != want {
		t.Errorf("%s: error %d, want %d", name, got, want)
	}
	for _, x := range results {
		if want != api.OK && !empty(x) {
			t.Errorf("%s: %v with the error %d", name, x, got)
		}
	}
}

// wantErrors fails unless all functions of which the results depend on truths have an error, and zero values with it.
func wantErrors(t *testing.T, name string, d api.DrumDrum, want api.Errno) {
	t.Helper()
	could, e := drum.Could(d)
	wantError(t, name+", Could", e, want, could)
	strength, e := drum.Strength(d)
	wantError(t, name+", Strength", e, want, strength)
	hour, e := drum.Tells(d, 4)
	wantError(t, name+", Tells", e, want, hour)
	known, e := drum.Known(d, 1)
	wantError(t, name+", Known", e, want, known)
	hour, e = drum.Smooth(d, 0)
	wantError(t, name+", Smooth", e, want, hour)
	hour, e = drum.Thin(d, 0)
	wantError(t, name+", Thin", e, want, hour)
	w, e := drum.Window(d)
	wantError(t, name+", Window", e, want, w)
	named, e := drum.Named(d)
	wantError(t, name+", Named", e, want, named)
	is, e := drum.Sorts(d, make([]int, len(d.Batches)))
	wantError(t, name+", Sorts", e, want, is)
	sorting, runs, e := drum.Sort(d)
	wantError(t, name+", Sort", e, want, sorting, runs)
	list, e := drum.Apart(d)
	wantError(t, name+", Apart", e, want, list)
	n, e := drum.Top(d, 0, 1)
	wantError(t, name+", Top", e, want, n)
}
