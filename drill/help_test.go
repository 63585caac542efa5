package drill_test

import (
	"reflect"
	"slices"
	"strings"
	"testing"

	"nacre/api"
	"nacre/drill"
)

// dice gives numbers that look random, and are the same each time.
type dice uint64

func (d *dice) upTo(n int) int {
	*d = *d*6364136223846793005 + 1442695040888963407
	return int(uint64(*d)>>33) % (n + 1)
}

func (d *dice) from(low, high int) int { return low + d.upTo(high-low) }

// in returns a number of a span by chance.
func (d *dice) in(s api.Span) int { return d.from(s.Low, s.High) }

// span returns a span by chance that lies as far as that from 0, and is at most so wide.
func (d *dice) span(reach, wide int) api.Span {
	low := d.from(-reach, reach)
	return span(low, d.from(low, min(reach, low+wide)))
}

// points returns so many points by chance that lie as far as that from 0.
func (d *dice) points(many, reach int) []api.DrillPoint {
	var l []api.DrillPoint
	for range many {
		l = append(l, point(d.from(-reach, reach), d.from(-reach, reach)))
	}
	return l
}

// shuffled returns points in another order by chance.
func (d *dice) shuffled(l []api.DrillPoint) []api.DrillPoint {
	l = slices.Clone(l)
	for i := range l {
		j := d.from(i, len(l)-1)
		l[i], l[j] = l[j], l[i]
	}
	return l
}

func span(low, high int) api.Span { return api.Span{Low: low, High: high} }

func point(x, y int) api.DrillPoint { return api.DrillPoint{X: x, Y: y} }

// points returns points of which X and Y are given, one after the other.
func points(n ...int) []api.DrillPoint {
	var l []api.DrillPoint
	for i := 0; i < len(n); i += 2 {
		l = append(l, point(n[i], n[i+1]))
	}
	return l
}

func reading(blank, x, y, err int) api.DrillReading {
	return api.DrillReading{Blank: blank, X: x, Y: y, Err: err}
}

func button(err int, n ...int) api.DrillButton { return api.DrillButton{Holes: points(n...), Err: err} }

// measureC returns the measure c of the chapter.
func measureC() api.DrillMeasure { return api.DrillMeasure{Holes: points(-4, 0, 4, 0), Off: 2} }

// machineM returns the machine m of the chapter, with readings.
func machineM(readings ...api.DrillReading) api.DrillMachine {
	return api.DrillMachine{Stops: points(-4, 0, 4, 0), ChuckX: span(-1, 1), WearX: span(0, 1), Readings: readings}
}

// machineR returns the machine r of the chapter.
func machineR() api.DrillMachine { return machineM(reading(2, 0, 0, 0)) }

// torn returns a machine that is not possible.
func torn() api.DrillMachine { return machineM(reading(0, 5, 0, 0)) }

// buttonB and buttonD return the buttons of the chapter.
func buttonB() api.DrillButton { return button(0, -3, 0, 5, 0) }

func buttonD() api.DrillButton { return button(0, -4, 0, 4, 0) }

// badMachines returns changes of a machine by which it is not as defined.
func badMachines() map[string]func(*api.DrillMachine) {
	type machine = api.DrillMachine
	bad := map[string]func(*machine){
		"no stops":           func(m *machine) { m.Stops = nil },
		"one stop":           func(m *machine) { m.Stops = m.Stops[:1] },
		"5 stops":            func(m *machine) { m.Stops = slices.Repeat(m.Stops, 3)[:5] },
		"a stop at 21":       func(m *machine) { m.Stops[1].X = 21 },
		"a stop at -21":      func(m *machine) { m.Stops[0].Y = -21 },
		"5 readings":         func(m *machine) { m.Readings = make([]api.DrillReading, 5) },
		"a reading at -1":    func(m *machine) { m.Readings = []api.DrillReading{reading(-1, 0, 0, 0)} },
		"a reading at 13":    func(m *machine) { m.Readings = []api.DrillReading{reading(13, 0, 0, 0)} },
		"a reading of X 81":  func(m *machine) { m.Readings = []api.DrillReading{reading(0, 81, 0, 4)} },
		"a reading of X -81": func(m *machine) { m.Readings = []api.DrillReading{reading(0, -81, 0, 4)} },
		"a reading of Y 81":  func(m *machine) { m.Readings = []api.DrillReading{reading(0, 0, 81, 4)} },
		"a reading of Y -81": func(m *machine) { m.Readings = []api.DrillReading{reading(0, 0, -81, 4)} },
		"an Err of 5":        func(m *machine) { m.Readings = []api.DrillReading{reading(0, 0, 0, 5)} },
		"an Err of -1":       func(m *machine) { m.Readings = []api.DrillReading{reading(0, 0, 0, -1)} },
		"a second reading":   func(m *machine) { m.Readings = []api.DrillReading{reading(0, 0, 0, 4), reading(0, 0, 0, 5)} },
	}
	chucks := map[string]api.Span{"to 13": span(7, 13), "from -13": span(-13, -7), "of 7": span(0, 7), "upside down": span(1, 0)}
	for name, s := range chucks {
		bad["a chuck in X "+name] = func(m *machine) { m.ChuckX = s }
		bad["a chuck in Y "+name] = func(m *machine) { m.ChuckY = s }
	}
	wears := map[string]api.Span{"to 4": span(2, 4), "from -4": span(-4, -2), "of 3": span(-1, 2), "upside down": span(1, 0)}
	for name, s := range wears {
		bad["a wear in X "+name] = func(m *machine) { m.WearX = s }
		bad["a wear in Y "+name] = func(m *machine) { m.WearY = s }
	}
	return bad
}

// badMachine returns the machine m with a change.
func badMachine(change func(*api.DrillMachine)) api.DrillMachine {
	m := machineM()
	change(&m)
	return m
}

// badMeasures returns measures that are not as defined.
func badMeasures() map[string]api.DrillMeasure {
	return map[string]api.DrillMeasure{
		"nothing":       {},
		"one hole":      {Holes: points(1, 2)},
		"5 holes":       {Holes: points(1, 1, 2, 2, 3, 3, 4, 4, 5, 5)},
		"two equal":     {Holes: points(1, 2, 1, 2)},
		"others equal":  {Holes: points(1, 2, 0, 0, 1, 2)},
		"a hole at 21":  {Holes: points(21, 0, 0, 0)},
		"a hole at -21": {Holes: points(0, 0, 0, -21)},
		"an Off of 7":   {Holes: points(0, 0, 1, 0), Off: 7},
		"an Off of -1":  {Holes: points(0, 0, 1, 0), Off: -1},
	}
}

// badButtons returns buttons with two holes, or not, that are not as defined, or do not go with two stops.
func badButtons() map[string]api.DrillButton {
	return map[string]api.DrillButton{
		"nothing":        {},
		"one hole":       button(0, 1, 1),
		"3 holes":        button(0, 1, 1, 2, 2, 3, 3),
		"5 holes":        button(0, 1, 1, 2, 2, 3, 3, 4, 4, 5, 5),
		"a hole at 81":   button(0, 1, 1, 81, 2),
		"a hole at -81":  button(0, 1, 1, 2, -81),
		"an Err of 5":    button(5, 1, 1, 2, 2),
		"an Err of -1":   button(-1, 1, 1, 2, 2),
		"much too large": button(0, 1<<62, -1<<63, 2, 2),
	}
}

// machineBy returns a machine with so many stops by chance, with a truth of it; chucks are at most so wide, and wear.
func machineBy(d *dice, stops, wide, wander int) (api.DrillMachine, api.DrillTruth) {
	m := api.DrillMachine{
		Stops:  d.points(stops, api.DrillReach),
		ChuckX: d.span(api.DrillStray, wide),
		ChuckY: d.span(api.DrillStray, wide),
		WearX:  d.span(api.DrillWear, wander),
		WearY:  d.span(api.DrillWear, wander),
	}
	x := truthBy(d, m)
	for range d.upTo(api.DrillReadings) {
		m.Readings = append(m.Readings, readingOf(d, x))
	}
	return m, x
}

// tame returns a machine for a measure by chance, with a truth of it: its holes most often are good for some time.
func tame(d *dice, c api.DrillMeasure, wide, wander int) (api.DrillMachine, api.DrillTruth) {
	m := api.DrillMachine{ChuckX: d.span(2, wide), ChuckY: d.span(2, wide), WearX: d.span(1, wander), WearY: d.span(1, wander)}
	for _, p := range d.shuffled(c.Holes) {
		m.Stops = append(m.Stops, point(near(d, p.X), near(d, p.Y)))
	}
	x := truthBy(d, m)
	for range d.upTo(2) {
		m.Readings = append(m.Readings, readingOf(d, x))
	}
	return m, x
}

// near returns a number by chance that differs from another one by at most 1, and can be one of a stop.
func near(d *dice, n int) int { return min(api.DrillReach, max(-api.DrillReach, n+d.from(-1, 1))) }

// measureBy returns a measure with so many holes by chance.
func measureBy(d *dice, holes, reach int) api.DrillMeasure {
	c := api.DrillMeasure{Off: d.upTo(api.DrillOff)}
	for len(c.Holes) < holes {
		if p := d.points(1, reach)[0]; !slices.Contains(c.Holes, p) {
			c.Holes = append(c.Holes, p)
		}
	}
	return c
}

// truthBy returns a truth by chance of a machine without readings.
func truthBy(d *dice, m api.DrillMachine) api.DrillTruth {
	walk := func(chuck, wear api.Span) []int {
		l := []int{d.in(chuck)}
		for n := range api.DrillBlanks {
			l = append(l, l[n]+d.in(wear))
		}
		return l
	}
	return api.DrillTruth{X: walk(m.ChuckX, m.WearX), Y: walk(m.ChuckY, m.WearY)}
}

// readingOf returns a reading by chance that agrees with a truth.
func readingOf(d *dice, x api.DrillTruth) api.DrillReading {
	blank, err := d.upTo(api.DrillBlanks), d.upTo(api.DrillErr)
	return reading(blank, x.X[blank]+d.from(-err, err), x.Y[blank]+d.from(-err, err), err)
}

// buttonOf returns a button by chance, with an Err of at most as much as that, that agrees with holes.
func buttonOf(d *dice, holes []api.DrillPoint, most int) api.DrillButton {
	b := api.DrillButton{Err: d.upTo(most)}
	turn := d.upTo(7)
	for _, p := range d.shuffled(holes) {
		// each turn is undone by one, so that the button agrees
		p = turnedBy(p, turn)
		b.Holes = append(b.Holes, point(p.X+d.from(-b.Err, b.Err), p.Y+d.from(-b.Err, b.Err)))
	}
	return b
}

// turnedBy returns a point that is turned, by the definition.
func turnedBy(p api.DrillPoint, turn int) api.DrillPoint {
	if turn >= 4 {
		p.X, turn = -p.X, turn-4
	}
	for range turn {
		p.X, p.Y = -p.Y, p.X
	}
	return p
}

// allTurned returns points that are turned.
func allTurned(l []api.DrillPoint, turn int) []api.DrillPoint {
	var found []api.DrillPoint
	for _, p := range l {
		found = append(found, turnedBy(p, turn))
	}
	return found
}

// allOrders returns all orders of so many points, in lexicographic order: all lists of so many numbers in which each one is.
func allOrders(many int) [][]int {
	lists := [][]int{nil}
	for range many {
		var longer [][]int
		for _, l := range lists {
			for n := range many {
				longer = append(longer, append(slices.Clone(l), n))
			}
		}
		lists = longer
	}
	return slices.DeleteFunc(lists, func(l []int) bool {
		for n := range many {
			if !slices.Contains(l, n) {
				return true
			}
		}
		return false
	})
}

// apart reports whether two numbers differ by more than that.
func apart(m, n, by int) bool { return m-n > by || n-m > by }

// agree reports whether points, with a turn and an order, differ from holes by at most as much as that, by the definition.
func agree(holes []api.DrillPoint, by int, l []api.DrillPoint, turn int, order []int) bool {
	for i, hole := range holes {
		p := turnedBy(l[order[i]], turn)
		if apart(p.X, hole.X, by) || apart(p.Y, hole.Y, by) {
			return false
		}
	}
	return true
}

// firstMatch returns the first turn and order with which points agree with holes, by trying all of them.
func firstMatch(holes []api.DrillPoint, by int, l []api.DrillPoint) (int, []int, bool) {
	orders := allOrders(len(holes))
	for turn := range 8 {
		for _, order := range orders {
			if agree(holes, by, l, turn, order) {
				return turn, order, true
			}
		}
	}
	return 0, nil, false
}

// shifted returns points that are all moved by the same.
func shifted(l []api.DrillPoint, x, y int) []api.DrillPoint {
	var found []api.DrillPoint
	for _, p := range l {
		found = append(found, point(p.X+x, p.Y+y))
	}
	return found
}

// isGood reports whether the holes of a machine are good if it is off by a point, by the definition.
func isGood(c api.DrillMeasure, m api.DrillMachine, off api.DrillPoint) bool {
	_, _, ok := firstMatch(c.Holes, c.Off, shifted(m.Stops, off.X, off.Y))
	return ok
}

// agrees reports whether a button agrees with a machine that is off by a point, by the definition.
func agrees(m api.DrillMachine, b api.DrillButton, off api.DrillPoint) bool {
	_, _, ok := firstMatch(shifted(m.Stops, off.X, off.Y), b.Err, b.Holes)
	return ok
}

// truths is all numbers by which a machine can be off at all blanks, in X and in Y: each of X goes with each of Y.
type truths struct {
	x, y [][]int
}

// allTruths returns all truths of a machine, by trying all numbers.
func allTruths(m api.DrillMachine) truths {
	return truths{
		walks(m.ChuckX, m.WearX, m.Readings, func(r api.DrillReading) int { return r.X }),
		walks(m.ChuckY, m.WearY, m.Readings, func(r api.DrillReading) int { return r.Y }),
	}
}

// walks returns all numbers by which a machine can be off at all blanks, along one axis, by the definition.
func walks(chuck, wear api.Span, readings []api.DrillReading, seen func(api.DrillReading) int) [][]int {
	var found [][]int
	var walk []int
	var try func(n int)
	try = func(n int) {
		for _, r := range readings {
			if r.Blank == len(walk) && apart(n, seen(r), r.Err) {
				return
			}
		}
		walk = append(walk, n)
		if len(walk) == api.DrillBlanks+1 {
			found = append(found, slices.Clone(walk))
		} else {
			for by := wear.Low; by <= wear.High; by++ {
				try(n + by)
			}
		}
		walk = walk[:len(walk)-1]
	}
	for n := chuck.Low; n <= chuck.High; n++ {
		try(n)
	}
	return found
}

// spanAt returns the least and the greatest number of some walks at a blank.
func spanAt(walks [][]int, blank int) api.Span {
	s := span(walks[0][blank], walks[0][blank])
	for _, w := range walks {
		s = span(min(s.Low, w[blank]), max(s.High, w[blank]))
	}
	return s
}

// valuesAt returns the numbers of some walks at some blanks, each list of them once.
func valuesAt(walks [][]int, blanks ...int) [][3]int {
	met := map[[3]int]bool{}
	var found [][3]int
	for _, w := range walks {
		var n [3]int
		for i, blank := range blanks {
			n[i] = w[blank]
		}
		if !met[n] {
			met[n] = true
			found = append(found, n)
		}
	}
	return found
}

// offsAt returns the points by which a machine can be off at a blank.
func (x truths) offsAt(blank int) []api.DrillPoint {
	var found []api.DrillPoint
	for _, a := range valuesAt(x.x, blank) {
		for _, b := range valuesAt(x.y, blank) {
			found = append(found, point(a[0], b[0]))
		}
	}
	return found
}

// sealed returns a text of lines, with the right CHECK.
func sealed(lines ...string) string {
	total := 0
	for i, line := range lines {
		for j, mark := range []byte(line) {
			total += int(mark) * (j + 1) * (i + 1)
		}
	}
	rest := total % 127
	digits := string([]byte{byte('0' + rest/100), byte('0' + rest/10%10), byte('0' + rest%10)})
	return strings.Join(append(slices.Clone(lines), "end "+digits), "\n") + "\n"
}

// sameMachine reports whether two machines are equal; nil and empty lists are.
func sameMachine(a, b api.DrillMachine) bool {
	return slices.Equal(a.Stops, b.Stops) && a.ChuckX == b.ChuckX && a.ChuckY == b.ChuckY && a.WearX == b.WearX && a.WearY == b.WearY && slices.Equal(a.Readings, b.Readings)
}

// empty reports whether a result is a zero value, or an empty list.
func empty(x any) bool {
	v := reflect.ValueOf(x)
	if v.Kind() == reflect.Slice {
		return v.Len() == 0
	}
	return v.IsZero()
}

// wantError fails unless a call has an error, and zero values with it.
func wantError(t *testing.T, name string, got, want api.Errno, results ...any) {
	t.Helper()
	if got != want {
		t.Errorf("%s: error %d, want %d", name, got, want)
	}
	for _, x := range results {
		if want != api.OK && !empty(x) {
			t.Errorf("%s: %v with the error %d", name, x, got)
		}
	}
}

// wantErrors fails unless all functions that are asked about a machine have an error, and zero values with it.
// A machine that is not as defined has its own error before all else, and one that is not possible has it after all else.
func wantErrors(t *testing.T, name string, m api.DrillMachine, want api.Errno) {
	t.Helper()
	name = "a machine with " + name + ", "
	wantError(t, name+"Machine", drill.Machine(m), want)
	x, y, e := drill.Known(m, 1)
	wantError(t, name+"Known", e, want, x, y)
	w, e := drill.Sure(measureC(), m, 1)
	wantError(t, name+"Sure", e, want, w)
	n, e := drill.Gauge(measureC(), m)
	wantError(t, name+"Gauge", e, want, n)
	l, e := drill.Could(m, buttonD())
	wantError(t, name+"Could", e, want, l)
	l, e = drill.Who([]api.DrillMachine{machineM(), m}, buttonD())
	wantError(t, name+"Who", e, want, l)
	l, e = drill.Together(m, []api.DrillButton{buttonD()})
	wantError(t, name+"Together", e, want, l)
	x, y, e = drill.Proves(m, buttonD(), 1, 1)
	wantError(t, name+"Proves", e, want, x, y)
	s, n, e := drill.Reset(measureC(), m, 1)
	wantError(t, name+"Reset", e, want, s, n)
}
