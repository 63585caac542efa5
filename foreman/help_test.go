package foreman_test

import (
	"reflect"
	"slices"
	"strconv"
	"strings"
	"testing"

	"nacre/api"
	"nacre/drum"
	"nacre/foreman"
	"nacre/mould"
	"nacre/shell"
)

const far = 1<<63 - 1

// dice gives numbers that look random, and are the same each time.
type dice uint64

func (d *dice) upTo(n int) int {
	*d = *d*6364136223846793005 + 1442695040888963407
	return int(uint64(*d)>>33) % (n + 1)
}

func (d *dice) from(low, high int) int { return low + d.upTo(high-low) }

// around returns a span by chance in which a number lies, from low to high.
func (d *dice) around(n, wide, low, high int) api.Span {
	return span(max(low, n-d.upTo(wide)), min(high, n+d.upTo(wide)))
}

func span(low, high int) api.Span { return api.Span{Low: low, High: high} }

func only(n int) api.Span { return span(n, n) }

func list(n ...int) []int { return n }

func entry(k api.ForemanKind, n ...int) api.ForemanEntry {
	return api.ForemanEntry{Kind: k, Numbers: n}
}

func cut(row, column, tube int) api.ForemanEntry { return entry(api.ForemanCut, row, column, tube) }

func take(batch, hour, many int) api.ForemanEntry { return entry(api.ForemanTake, batch, hour, many) }

func send(house, many int) api.ForemanEntry { return entry(api.ForemanSend, house, many) }

func bring(house, many int) api.ForemanEntry { return entry(api.ForemanBring, house, many) }

func find(seen, day int) api.ForemanEntry { return entry(api.ForemanFind, seen, day) }

func strike(n int) api.ForemanEntry { return entry(api.ForemanStrike, n) }

func question(k api.ForemanAsk, n ...int) api.ForemanQuestion {
	return api.ForemanQuestion{Kind: k, Numbers: n}
}

// workW returns the work w of layer 1's examples.
func workW() api.ShellWork {
	const out, solid, worm = api.ShellOutside, api.ShellSolid, api.ShellWorm
	return api.ShellWork{
		Map: api.ShellMap{
			Cells: [][]api.ShellCell{{solid, solid, solid, out}, {solid, worm, solid, solid}, {out, solid, solid, solid}},
			Taper: 2, Hidden: 1,
			Gauges: []api.ShellGauge{{Seen: 12, Off: 1}, {Column: 2, Seen: 9, Off: 1}, {Row: 1, Column: 3, Seen: 5, Off: 1}, {Row: 2, Column: 1, Seen: 10, Off: 2}, {Row: 2, Column: 3, Seen: 8, Off: 1}},
			Cracks: []api.ShellCrack{{}},
			Probed: []api.ShellPlace{{}, {Row: 1, Column: 2}, {Row: 1, Column: 3}, {Row: 2, Column: 2}, {Row: 2, Column: 3}},
		},
		Tubes: []api.ShellTube{{Width: 1, Need: 4, Worth: 2}, {Width: 2, Need: 4, Worth: 14}},
		Kerf:  1,
	}
}

// drumD returns the drum d of layer 3's examples.
func drumD() api.DrumDrum {
	return api.DrumDrum{
		Acids: []api.DrumAcid{{Strength: span(40, 50), Fall: only(5)}, {Strength: span(60, 80), Fall: span(10, 20)}},
		Known: 3, Hours: 4, Adds: list(0, 0, 0, 0),
		Strips: []api.DrumStrip{{Hour: 1, Seen: 40, Off: 5}},
		Batches: []api.DrumBatch{
			{Rough: 100, Goal: 30, Thick: 200, Least: 150, Polish: 100, Eat: 40},
			{Rough: 60, Goal: 30, Thick: 100, Least: 70, Polish: 50, Eat: 20},
			{Rough: 20, Goal: 20, Thick: 50, Least: 30, Polish: 10, Eat: 40},
		},
	}
}

// bookB returns the book b of layer 7's examples.
func bookB() api.MouldBook {
	return api.MouldBook{Miss: 1, Moulds: []api.MouldMould{
		{
			Parent: -1,
			Marks:  []api.MouldMark{{Spot: 0, First: only(1)}, {Spot: 1, First: span(4, 8)}},
			Loans:  []api.MouldLoan{{House: 0, Strikes: span(5, 6), From: span(1, 2)}, {House: 1, Strikes: span(3, 5), From: only(5)}},
		},
		{
			Cut:   span(2, 5),
			Marks: []api.MouldMark{{Spot: 2, First: span(3, 4)}},
			Loans: []api.MouldLoan{{House: 2, Strikes: span(4, 8), From: span(3, 4)}},
		},
	}}
}

// suiteS returns the suite s of the chapter.
func suiteS() api.ForemanSuite {
	return api.ForemanSuite{Work: workW(), Drum: drumD(), Rate: 10, Kept: list(100, 0), Book: bookB()}
}

// changed returns the suite s with some change.
func changed(change func(s *api.ForemanSuite)) api.ForemanSuite {
	s := suiteS()
	change(&s)
	return s
}

// bareSuite returns a suite with as little of everything as there can be.
func bareSuite() api.ForemanSuite {
	return api.ForemanSuite{
		Work: api.ShellWork{
			Map:   api.ShellMap{Cells: [][]api.ShellCell{{api.ShellOutside}}},
			Tubes: []api.ShellTube{{Width: 1, Need: 1, Worth: 1}},
		},
		Drum: api.DrumDrum{Acids: make([]api.DrumAcid, 1), Known: 1, Hours: 1, Adds: list(0), Batches: make([]api.DrumBatch, 1)},
		Kept: list(0),
		Book: api.MouldBook{Moulds: []api.MouldMould{{Parent: -1, Loans: make([]api.MouldLoan, 1)}}},
	}
}

// fullSuite returns a suite with as much of everything as there can be.
func fullSuite() api.ForemanSuite {
	s := api.ForemanSuite{Rate: 1000, Kept: list(143, 143, 143, 143)}
	row := slices.Repeat([]api.ShellCell{api.ShellSolid}, 8)
	s.Work = api.ShellWork{Map: api.ShellMap{Taper: 9, Hidden: 3}, Tubes: slices.Repeat([]api.ShellTube{{Width: 1, Need: 1, Worth: 100}}, 4)}
	for n := range 6 {
		s.Work.Map.Cells = append(s.Work.Map.Cells, slices.Clone(row))
		s.Work.Map.Gauges = append(s.Work.Map.Gauges, api.ShellGauge{Row: n, Column: 7, Seen: 60})
	}
	s.Drum = api.DrumDrum{
		Acids: slices.Repeat([]api.DrumAcid{{Strength: only(100), Fall: span(0, 20)}}, 4), Known: 15, Hours: 12, Adds: slices.Repeat(list(100), 12),
		Batches: slices.Repeat([]api.DrumBatch{{Rough: 1000, Goal: 1000, Thick: 1000, Polish: 100, Eat: 100}}, 5),
	}
	s.Book = api.MouldBook{Miss: 2, Ghost: 2}
	for n := range 5 {
		m := api.MouldMould{Parent: n - 1, Loans: slices.Repeat([]api.MouldLoan{{House: n, Strikes: span(0, 12), From: span(0, 99)}}, 3)}
		if n > 0 {
			m.Cut = span(31, 36)
		}
		for spot := range 2 {
			if n < 4 {
				m.Marks = append(m.Marks, api.MouldMark{Spot: 2*n + spot, First: span(1, 36)})
			}
		}
		s.Book.Moulds = append(s.Book.Moulds, m)
	}
	return s
}

// badSuites returns suites that are not as defined.
func badSuites() map[string]api.ForemanSuite {
	bad := map[string]api.ForemanSuite{"nothing": {}}
	for name, change := range map[string]func(s *api.ForemanSuite){
		"a Rate of -1":       func(s *api.ForemanSuite) { s.Rate = -1 },
		"a Rate of 1001":     func(s *api.ForemanSuite) { s.Rate = 1001 },
		"a Rate far":         func(s *api.ForemanSuite) { s.Rate = far },
		"no Kept":            func(s *api.ForemanSuite) { s.Kept = nil },
		"an empty Kept":      func(s *api.ForemanSuite) { s.Kept = list() },
		"5 Kept":             func(s *api.ForemanSuite) { s.Kept = list(0, 0, 0, 0, 0) },
		"many Kept":          func(s *api.ForemanSuite) { s.Kept = make([]int, 100000) },
		"a Kept of -1":       func(s *api.ForemanSuite) { s.Kept[1] = -1 },
		"a Kept of 144":      func(s *api.ForemanSuite) { s.Kept[0] = 144 },
		"the last Kept 144":  func(s *api.ForemanSuite) { s.Kept = list(0, 0, 0, 144) },
		"a Kept far below":   func(s *api.ForemanSuite) { s.Kept[1] = -far - 1 },
		"no work":            func(s *api.ForemanSuite) { s.Work = api.ShellWork{} },
		"no tubes":           func(s *api.ForemanSuite) { s.Work.Tubes = nil },
		"5 tubes":            func(s *api.ForemanSuite) { s.Work.Tubes = slices.Repeat(s.Work.Tubes[:1], 5) },
		"a Width of 4":       func(s *api.ForemanSuite) { s.Work.Tubes[1].Width = 4 },
		"a Kerf of 6":        func(s *api.ForemanSuite) { s.Work.Kerf = 6 },
		"a Taper of 10":      func(s *api.ForemanSuite) { s.Work.Map.Taper = 10 },
		"a crack at an end":  func(s *api.ForemanSuite) { s.Work.Map.Cracks[0].Column = 3 },
		"gauges that differ": func(s *api.ForemanSuite) { s.Work.Map.Gauges[0].Seen = 16 },
		"a row that grows":   func(s *api.ForemanSuite) { s.Work.Map.Gauges[4].Seen = 14 },
		"no drum":            func(s *api.ForemanSuite) { s.Drum = api.DrumDrum{} },
		"no batches":         func(s *api.ForemanSuite) { s.Drum.Batches = nil },
		"an Add less":        func(s *api.ForemanSuite) { s.Drum.Adds = list(0, 0, 0) },
		"no acid is known":   func(s *api.ForemanSuite) { s.Drum.Known = 0 },
		"an acid too many":   func(s *api.ForemanSuite) { s.Drum.Known = 4 },
		"a strip far off":    func(s *api.ForemanSuite) { s.Drum.Strips[0].Seen = 90 },
		"an acid too strong": func(s *api.ForemanSuite) { s.Drum.Known, s.Drum.Strips[0].Seen = 1, 55 },
		"no book":            func(s *api.ForemanSuite) { s.Book = api.MouldBook{} },
		"a Miss of 3":        func(s *api.ForemanSuite) { s.Book.Miss = 3 },
		"a Ghost of -1":      func(s *api.ForemanSuite) { s.Book.Ghost = -1 },
		"a Spot twice":       func(s *api.ForemanSuite) { s.Book.Moulds[1].Marks[0].Spot = 1 },
		"a Parent after":     func(s *api.ForemanSuite) { s.Book.Moulds[0].Parent = 1 },
		"days that turn":     func(s *api.ForemanSuite) { s.Book.Moulds[0].Loans[1].From = only(0) },
	} {
		bad[name] = changed(change)
	}
	return bad
}

// opened returns a desk of a suite at which some entries were made.
func opened(t *testing.T, s api.ForemanSuite, entries ...api.ForemanEntry) *foreman.Desk {
	t.Helper()
	d, e := foreman.Open(s)
	if e != api.OK || d == nil {
		t.Fatalf("no desk, error %d", e)
	}
	for i, x := range entries {
		if e := d.Enter(x); e != api.OK {
			t.Fatalf("entry %d, %v: error %d", i, x, e)
		}
	}
	return d
}

// ledger is what a desk must do, by the definitions: all entries that were made, and which of them were struck.
type ledger struct {
	s      api.ForemanSuite
	made   []api.ForemanEntry
	struck map[int]bool
}

func newLedger(s api.ForemanSuite) *ledger { return &ledger{s: s, struck: map[int]bool{}} }

// stands returns the numbers of the entries that stand.
func (l *ledger) stands() []int {
	var numbers []int
	for n, x := range l.made {
		if x.Kind != api.ForemanStrike && !l.struck[n] {
			numbers = append(numbers, n)
		}
	}
	return numbers
}

// standing returns the entries that stand, but for one number.
func (l *ledger) standing(but int) []api.ForemanEntry {
	var entries []api.ForemanEntry
	for _, n := range l.stands() {
		if n != but {
			entries = append(entries, l.made[n])
		}
	}
	return entries
}

// enter makes an entry, if it can be made.
func (l *ledger) enter(x api.ForemanEntry) api.Errno {
	e := l.errorOf(x)
	if e == api.OK {
		l.made = append(l.made, x)
		if x.Kind == api.ForemanStrike {
			l.struck[x.Numbers[0]] = true
		}
	}
	return e
}

// errorOf returns the error of an entry.
func (l *ledger) errorOf(x api.ForemanEntry) api.Errno {
	switch {
	case !formed(x):
		return api.ErrArg
	case len(l.made) >= 24:
		return api.ErrLong
	case x.Kind != api.ForemanStrike:
		return errorAfter(l.s, l.standing(-1), x)
	}
	n := x.Numbers[0]
	if n >= len(l.made) || l.made[n].Kind == api.ForemanStrike {
		return api.ErrArg
	}
	others := l.standing(n)
	if l.struck[n] || len(others) == len(l.stands()) {
		return api.ErrRule
	}
	for i, other := range others {
		if errorAfter(l.s, others[:i], other) != api.OK {
			return api.ErrRule
		}
	}
	return api.OK
}

// formed reports whether an entry is formed.
func formed(x api.ForemanEntry) bool {
	many := map[api.ForemanKind]int{
		api.ForemanCut: 3, api.ForemanTake: 3, api.ForemanSend: 2, api.ForemanBring: 2, api.ForemanFind: 2, api.ForemanStrike: 1,
	}
	for _, n := range x.Numbers {
		if n < 0 || n > 9999 {
			return false
		}
	}
	return many[x.Kind] > 0 && len(x.Numbers) == many[x.Kind]
}

// errorAfter returns the error of an entry, which is no strike, after others that stand.
func errorAfter(s api.ForemanSuite, others []api.ForemanEntry, x api.ForemanEntry) api.Errno {
	n := x.Numbers
	switch x.Kind {
	case api.ForemanCut:
		if n[2] >= len(s.Work.Tubes) {
			return api.ErrArg
		}
		gives, e := shell.Gives(s.Work, blank(n))
		return ruled(e == api.OK && gives.Low >= 1 && areBlanks(s.Work, append(blanksOf(others), blank(n))))
	case api.ForemanTake:
		if n[0] >= len(s.Drum.Batches) || n[1] > s.Drum.Hours || n[2] == 0 {
			return api.ErrArg
		}
		return ruled(canBeTaken(s, others, n) && n[2] <= had(s, others)-many(others, api.ForemanTake, -1))
	case api.ForemanSend:
		if n[0] >= len(s.Kept) || n[1] == 0 {
			return api.ErrArg
		}
		return ruled(n[1] <= many(others, api.ForemanTake, -1)-many(others, api.ForemanSend, -1))
	case api.ForemanBring:
		if n[0] >= len(s.Kept) || n[1] == 0 {
			return api.ErrArg
		}
		return ruled(n[1] <= many(others, api.ForemanSend, n[0])-many(others, api.ForemanBring, n[0]))
	}
	if n[0] > 255 || n[1] > 99 {
		return api.ErrArg
	}
	for _, earlier := range others {
		if earlier.Kind == api.ForemanFind && earlier.Numbers[1] > n[1] {
			return api.ErrRule
		}
	}
	moulds, e := mould.Could(s.Book, api.MouldFind{Seen: n[0], Day: n[1]})
	return ruled(e == api.OK && len(moulds) > 0)
}

// ruled returns ErrRule unless something is so.
func ruled(is bool) api.Errno {
	if !is {
		return api.ErrRule
	}
	return api.OK
}

func blank(n []int) api.ShellBlank {
	return api.ShellBlank{Row: n[0], Column: n[1], Tube: n[2]}
}

// blanksOf returns the blanks of all that were cut.
func blanksOf(entries []api.ForemanEntry) []api.ShellBlank {
	var blanks []api.ShellBlank
	for _, x := range entries {
		if x.Kind == api.ForemanCut {
			blanks = append(blanks, blank(x.Numbers))
		}
	}
	return blanks
}

// areBlanks reports whether blanks that can be cut by themselves are those of a cutting, in some order.
func areBlanks(w api.ShellWork, blanks []api.ShellBlank) bool {
	for i, a := range blanks {
		for _, b := range blanks[:i] {
			width, other := w.Tubes[a.Tube].Width, w.Tubes[b.Tube].Width
			apart := a.Row+width <= b.Row || b.Row+other <= a.Row
			beside := a.Row == b.Row && width == other && (a.Column+width <= b.Column || b.Column+other <= a.Column)
			if !apart && !beside {
				return false
			}
		}
	}
	return true
}

// canBeTaken reports whether a batch can be taken in an hour, however many buttons.
func canBeTaken(s api.ForemanSuite, others []api.ForemanEntry, n []int) bool {
	for _, earlier := range others {
		if earlier.Kind == api.ForemanTake && (earlier.Numbers[0] == n[0] || earlier.Numbers[1] > n[1]) {
			return false
		}
	}
	smooth, e := drum.Smooth(s.Drum, n[0])
	thin, f := drum.Thin(s.Drum, n[0])
	return e == api.OK && f == api.OK && smooth <= n[1] && n[1] <= thin
}

// had returns what was had by all that were cut.
func had(s api.ForemanSuite, entries []api.ForemanEntry) int {
	sum := 0
	for _, b := range blanksOf(entries) {
		gives, _ := shell.Gives(s.Work, b)
		sum += gives.Low
	}
	return sum
}

// many returns the sum of the MANY of all entries of a kind, of a house or, for -1, of all.
func many(entries []api.ForemanEntry, k api.ForemanKind, house int) int {
	sum := 0
	for _, x := range entries {
		if x.Kind == k && (house < 0 || x.Numbers[0] == house) {
			sum += x.Numbers[len(x.Numbers)-1]
		}
	}
	return sum
}

// ask returns the answer of a question.
func (l *ledger) ask(q api.ForemanQuestion) ([]int, api.Errno) {
	numbers := map[api.ForemanAsk]int{
		api.ForemanSlices: 0, api.ForemanWorth: 0, api.ForemanBest: 0, api.ForemanSound: 0, api.ForemanGives: 3,
		api.ForemanWindow: 1, api.ForemanDue: 1, api.ForemanWho: 0, api.ForemanMoulds: 2, api.ForemanStands: 0,
	}
	if n, is := numbers[q.Kind]; !is || n != len(q.Numbers) {
		return nil, api.ErrArg
	}
	switch q.Kind {
	case api.ForemanGives, api.ForemanWindow, api.ForemanMoulds:
		return l.askLayer(q)
	case api.ForemanWorth, api.ForemanBest, api.ForemanSound:
		return l.askCutting(q)
	case api.ForemanDue:
		return l.due(q.Numbers[0])
	case api.ForemanWho:
		return l.who(), api.OK
	case api.ForemanStands:
		return l.stands(), api.OK
	}
	x := l.standing(-1)
	return list(had(l.s, x), many(x, api.ForemanTake, -1), many(x, api.ForemanSend, -1), many(x, api.ForemanBring, -1)), api.OK
}

// askLayer returns the answer of a question that has the same one at each desk.
func (l *ledger) askLayer(q api.ForemanQuestion) ([]int, api.Errno) {
	n := q.Numbers
	switch q.Kind {
	case api.ForemanGives:
		gives, e := shell.Gives(l.s.Work, blank(n))
		if e != api.OK {
			return nil, e
		}
		return list(gives.Low, gives.High), api.OK
	case api.ForemanMoulds:
		return mould.Could(l.s.Book, api.MouldFind{Seen: n[0], Day: n[1]})
	}
	if n[0] < 0 || n[0] >= len(l.s.Drum.Batches) {
		return nil, api.ErrArg
	}
	smooth, thin := -1, -1
	b := l.s.Drum.Batches[n[0]]
	for hour := range l.s.Drum.Hours + 1 {
		known, _ := drum.Known(l.s.Drum, hour)
		if smooth < 0 && known[n[0]].Rough.High <= b.Goal {
			smooth = hour
		}
		if known[n[0]].Thick.Low >= b.Least {
			thin = hour
		}
	}
	if smooth < 0 || thin < smooth {
		return nil, api.ErrNone
	}
	return list(smooth, thin), api.OK
}

// askCutting returns the answer of a question about the cutting.
func (l *ledger) askCutting(q api.ForemanQuestion) ([]int, api.Errno) {
	if q.Kind == api.ForemanBest {
		_, worth, e := shell.Pack(l.s.Work)
		return list(worth), e
	}
	cutting := blanksOf(l.standing(-1))
	slices.SortFunc(cutting, func(a, b api.ShellBlank) int { return 100*(a.Row-b.Row) + a.Column - b.Column })
	if q.Kind == api.ForemanSound {
		worth, e := shell.Sound(l.s.Work, cutting)
		return list(worth), e
	}
	least, most := 0, 0
	for _, b := range cutting {
		gives, _ := shell.Gives(l.s.Work, b)
		least += gives.Low * l.s.Work.Tubes[b.Tube].Worth
		most += gives.High * l.s.Work.Tubes[b.Tube].Worth
	}
	return list(least, most), api.OK
}

func (l *ledger) due(house int) ([]int, api.Errno) {
	if house < 0 || house >= len(l.s.Kept) {
		return nil, api.ErrArg
	}
	x := l.standing(-1)
	brought := many(x, api.ForemanBring, house)
	paid, kept := 0, l.s.Kept[house]+brought
	for kept >= 144 {
		paid, kept = paid+l.s.Rate, kept-144
	}
	return list(paid, kept, many(x, api.ForemanSend, house)-brought), api.OK
}

func (l *ledger) who() []int {
	var who []int
	finds := 0
	for _, x := range l.standing(-1) {
		if x.Kind != api.ForemanFind {
			continue
		}
		houses, _ := mould.Who(l.s.Book, api.MouldFind{Seen: x.Numbers[0], Day: x.Numbers[1]})
		if finds == 0 {
			who = slices.Clone(houses)
		}
		finds++
		who = slices.DeleteFunc(who, func(house int) bool { return !slices.Contains(houses, house) })
	}
	return who
}

// line returns the line of a word and numbers.
func line(word string, numbers ...int) string {
	for _, n := range numbers {
		word += " " + strconv.Itoa(n)
	}
	return word
}

// entryWord returns the word of a kind of entries.
func entryWord(k api.ForemanKind) string {
	return []string{"", "cut", "take", "send", "bring", "find", "strike"}[k]
}

// askWord returns the word of a kind of questions.
func askWord(k api.ForemanAsk) string {
	return []string{"", "slices", "worth", "best", "sound", "gives", "window", "due", "who", "moulds", "stands"}[k]
}

// journal returns the journal.
func (l *ledger) journal() string {
	text := ""
	for _, x := range l.made {
		text += line(entryWord(x.Kind), x.Numbers...) + "\n"
	}
	return text
}

// questions returns all questions at a desk of a suite, with some that have no answer.
func questions(s api.ForemanSuite) []api.ForemanQuestion {
	var all []api.ForemanQuestion
	for _, k := range []api.ForemanAsk{api.ForemanSlices, api.ForemanWorth, api.ForemanBest, api.ForemanSound, api.ForemanWho, api.ForemanStands} {
		all = append(all, question(k), question(k, 0))
	}
	all = append(all, question(0), question(11), question(-1), question(far), question(-far-1), question(api.ForemanGives, 0, 0), question(api.ForemanMoulds, 0, 0, 0))
	for row := range len(s.Work.Map.Cells) + 1 {
		for column := range len(s.Work.Map.Cells[0]) + 1 {
			for tube := range len(s.Work.Tubes) + 1 {
				all = append(all, question(api.ForemanGives, row, column, tube))
			}
		}
	}
	for batch := range len(s.Drum.Batches) + 2 {
		all = append(all, question(api.ForemanWindow, batch-1))
	}
	for house := range len(s.Kept) + 2 {
		all = append(all, question(api.ForemanDue, house-1))
	}
	for _, seen := range list(-1, 0, 1, 2, 3, 5, 7, 255, 256) {
		for _, day := range list(-1, 0, 2, 9, 99, 100) {
			all = append(all, question(api.ForemanMoulds, seen, day))
		}
	}
	return all
}

// answers returns what all questions are answered with, but for one kind.
func answers(d *foreman.Desk, s api.ForemanSuite, but api.ForemanAsk) [][]int {
	var all [][]int
	for _, q := range questions(s) {
		if q.Kind == but {
			continue
		}
		answer, e := d.Ask(q)
		all = append(all, append(slices.Clone(answer), int(e)))
	}
	return all
}

// wantLedger fails unless a desk has the answers and the journal of a ledger.
func wantLedger(t *testing.T, d *foreman.Desk, l *ledger) {
	t.Helper()
	if journal, e := d.Journal(); e != api.OK || journal != l.journal() {
		t.Fatalf("%q, error %d, want %q", journal, e, l.journal())
	}
	for _, q := range questions(l.s) {
		got, e := d.Ask(q)
		want, f := l.ask(q)
		if e != f || !slices.Equal(got, want) {
			t.Fatalf("%v after %q: %v, error %d, want %v, error %d", q, l.journal(), got, e, want, f)
		}
	}
}

// world is a suite by chance, with a truth of its shell, its drum and its book.
type world struct {
	suite    api.ForemanSuite
	thick    [][]int
	strength api.DrumTruth
	book     api.MouldTruth
}

// worldBy returns a world by chance.
func worldBy(d *dice) world {
	var w world
	w.suite.Work, w.thick = workBy(d)
	w.suite.Drum, w.strength = drumBy(d)
	w.suite.Book, w.book = bookBy(d)
	w.suite.Rate = d.upTo(20)
	for range d.from(1, 4) {
		w.suite.Kept = append(w.suite.Kept, []int{d.upTo(143), d.from(134, 143)}[d.upTo(1)])
	}
	return w
}

// workBy returns a work by chance, and how thick its shell is.
func workBy(d *dice) (api.ShellWork, [][]int) {
	w := api.ShellWork{Kerf: d.upTo(2)}
	m := api.ShellMap{Taper: d.upTo(3), Hidden: d.upTo(2)}
	columns := d.from(2, 5)
	var thick [][]int
	for row := range d.from(1, 3) {
		m.Cells = append(m.Cells, nil)
		thick = append(thick, nil)
		for column := range columns {
			cell := []api.ShellCell{api.ShellOutside, api.ShellWorm, api.ShellSolid}[min(2, d.upTo(12))]
			n := d.from(10, 58)
			if cell == api.ShellOutside {
				n = 0
			} else if column > 0 && m.Cells[row][column-1] != api.ShellOutside {
				n = max(0, thick[row][column-1]-d.upTo(m.Taper))
			}
			m.Cells[row], thick[row] = append(m.Cells[row], cell), append(thick[row], n)
		}
	}
	for row, cells := range m.Cells {
		for range 2 {
			column := d.upTo(columns - 1)
			if cells[column] != api.ShellOutside {
				off := d.upTo(2)
				m.Gauges = append(m.Gauges, api.ShellGauge{Row: row, Column: column, Seen: max(0, thick[row][column]+d.from(-off, off)), Off: off})
			}
			if cells[column] == api.ShellSolid && d.upTo(1) == 0 {
				m.Probed = append(m.Probed, api.ShellPlace{Row: row, Column: column})
			}
		}
		if d.upTo(2) == 0 {
			m.Cracks = append(m.Cracks, api.ShellCrack{Row: row, Column: d.upTo(columns - 2), Down: row+1 < len(m.Cells) && d.upTo(1) == 0})
		}
	}
	w.Map = m
	for range d.from(1, 3) {
		w.Tubes = append(w.Tubes, api.ShellTube{Width: list(1, 1, 2, 3)[d.upTo(3)], Need: d.from(1, 6), Worth: d.from(1, 9)})
	}
	return w, thick
}

// drumBy returns a drum by chance, and its acid.
func drumBy(d *dice) (api.DrumDrum, api.DrumTruth) {
	x := api.DrumDrum{Hours: d.from(2, 4)}
	for range d.from(1, 2) {
		low, fall := d.from(10, 40), d.upTo(5)
		x.Acids = append(x.Acids, api.DrumAcid{Strength: span(low, low+d.upTo(15)), Fall: span(fall, fall+d.upTo(4))})
	}
	truth := api.DrumTruth{Acid: d.upTo(len(x.Acids) - 1)}
	x.Known = 1<<truth.Acid | d.upTo(1<<len(x.Acids)-1)
	acid := x.Acids[truth.Acid]
	for hour := range x.Hours {
		n := d.from(acid.Strength.Low, acid.Strength.High)
		if hour > 0 {
			n = max(0, truth.Strength[hour-1]-d.from(acid.Fall.Low, acid.Fall.High))
		}
		x.Adds = append(x.Adds, max(0, d.from(-10, 5)))
		truth.Strength = append(truth.Strength, n+x.Adds[hour])
	}
	for range d.upTo(2) {
		hour, off := d.upTo(x.Hours-1), d.upTo(5)
		x.Strips = append(x.Strips, api.DrumStrip{Hour: hour, Seen: max(0, truth.Strength[hour]+d.from(-off, off)), Off: off})
	}
	for range d.from(1, 5) {
		b := api.DrumBatch{Rough: d.upTo(80), Goal: d.upTo(60), Thick: d.from(100, 200), Polish: d.upTo(100), Eat: d.upTo(40)}
		b.Least = b.Thick - d.upTo(60)
		x.Batches = append(x.Batches, b)
	}
	return x, truth
}

// bookBy returns a book by chance, and a truth of it.
func bookBy(d *dice) (api.MouldBook, api.MouldTruth) {
	b := api.MouldBook{Miss: d.upTo(1), Ghost: d.upTo(3) / 3}
	var truth api.MouldTruth
	spot := 0
	for mould := range d.from(1, 3) {
		m := api.MouldMould{Parent: d.from(-1, mould-1)}
		cut := 0
		if m.Parent >= 0 {
			cut = d.upTo(8)
			m.Cut = d.around(cut, 2, 0, 36)
		}
		var first, strikes, days []int
		for range d.upTo(2) {
			n := d.from(1, 8)
			m.Marks = append(m.Marks, api.MouldMark{Spot: spot, First: d.around(n, 2, 1, 36)})
			first = append(first, n)
			spot++
		}
		day := 0
		for range d.from(1, 2) {
			n := d.upTo(5)
			day += d.upTo(6)
			m.Loans = append(m.Loans, api.MouldLoan{House: d.upTo(5), Strikes: d.around(n, 1, 0, 12), From: d.around(day, 3, 0, 99)})
			strikes, days = append(strikes, n), append(days, day)
		}
		b.Moulds = append(b.Moulds, m)
		truth.First, truth.Cut = append(truth.First, first), append(truth.Cut, cut)
		truth.Strikes, truth.Days = append(truth.Strikes, strikes), append(truth.Days, days)
	}
	return b, truth
}

// below returns a number by chance from 0 to one less than another one, or seldom this one.
func (d *dice) below(n int) int {
	if n == 0 || d.upTo(14) == 0 {
		return n
	}
	return d.upTo(n - 1)
}

// part returns a number by chance from 1 to another one, or seldom 0 or one more.
func (d *dice) part(n int) int {
	if n <= 0 || d.upTo(9) == 0 {
		return max(0, n+1) * d.upTo(1)
	}
	return d.from(1, n)
}

// entryBy returns an entry by chance for a ledger, often one that goes.
func entryBy(d *dice, l *ledger) api.ForemanEntry {
	s, x := l.s, l.standing(-1)
	house := d.below(len(s.Kept))
	left, polished, sent := had(s, x)-many(x, api.ForemanTake, -1), many(x, api.ForemanTake, -1), many(x, api.ForemanSend, -1)
	switch k := d.upTo(14); {
	case k < 4:
		return cut(d.below(len(s.Work.Map.Cells)), d.below(len(s.Work.Map.Cells[0])), d.below(len(s.Work.Tubes)))
	case k < 7:
		return takeBy(d, s, d.part(left))
	case k < 9:
		return send(house, d.part(polished-sent))
	case k < 11:
		return bring(house, d.part(many(x, api.ForemanSend, house)-many(x, api.ForemanBring, house)))
	case k < 13:
		return find([]int{d.upTo(7), d.upTo(256)}[d.upTo(3)/3], []int{d.upTo(20), d.upTo(100)}[d.upTo(3)/3])
	}
	return strike(d.upTo(len(l.made)))
}

// takeBy returns an entry by chance of a batch that is taken, often in its window.
func takeBy(d *dice, s api.ForemanSuite, many int) api.ForemanEntry {
	batch := d.below(len(s.Drum.Batches))
	smooth, e := drum.Smooth(s.Drum, batch)
	thin, f := drum.Thin(s.Drum, batch)
	if e != api.OK || f != api.OK || thin < smooth || d.upTo(3) == 0 {
		return take(batch, d.upTo(s.Drum.Hours+1), many)
	}
	return take(batch, d.from(smooth, thin), many)
}

// seenBy returns a find by chance of a crest that was stamped in truth, with the house that did so; false if none was stamped.
func (w world) seenBy(d *dice) (f api.MouldFind, house int, is bool) {
	number := d.upTo(len(w.suite.Book.Moulds) - 1)
	m := w.suite.Book.Moulds[number]
	loan := d.upTo(len(m.Loans) - 1)
	if w.book.Strikes[number][loan] == 0 {
		return api.MouldFind{}, 0, false
	}
	at := d.from(1, w.book.Strikes[number][loan])
	for _, before := range w.book.Strikes[number][:loan] {
		at += before
	}
	set, e := mould.Marks(w.suite.Book, w.book, number, at)
	if e != api.OK {
		return api.MouldFind{}, 0, false
	}
	for range d.upTo(w.suite.Book.Miss) {
		set &^= 1 << d.upTo(7)
	}
	for range d.upTo(w.suite.Book.Ghost) {
		set |= 1 << d.upTo(7)
	}
	return api.MouldFind{Seen: set, Day: min(99, w.book.Days[number][loan]+d.upTo(9))}, m.Loans[loan].House, true
}

// session makes entries by chance at a new desk and in a new ledger, and calls visit after each one.
func session(t *testing.T, d *dice, s api.ForemanSuite, entries int, visit func(desk *foreman.Desk, l *ledger, x api.ForemanEntry, e api.Errno)) {
	t.Helper()
	desk, l := opened(t, s), newLedger(s)
	for range entries {
		x := entryBy(d, l)
		before := l.journal()
		e, want := desk.Enter(x), l.enter(x)
		if e != want {
			t.Fatalf("%v after %q: error %d, want %d", x, before, e, want)
		}
		visit(desk, l, x, e)
	}
}

// empty reports whether a result is a zero value, or an empty list.
func empty(x any) bool {
	v := reflect.ValueOf(x)
	switch v.Kind() {
	case reflect.Slice:
		return v.Len() == 0
	case reflect.Struct:
		for i := range v.NumField() {
			if !empty(v.Field(i).Interface()) {
				return false
			}
		}
		return true
	}
	return v.IsZero()
}

// wantError fails unless a call has an error, and zero values with it.
func wantError(t *testing.T, name string, got, want api.Errno, results ...any) {
	t.Helper()
	if got != want {
		t.Errorf("%s: error %d, want %d", name, got, want)
	}
	for _, x := range results {
		if want != api.OK && !empty(x) {
			t.Errorf("%s: %v with the error %d", name, x, got)
		}
	}
}

// wantConsole fails unless lines, the first, third and so on, are answered with those after them.
func wantConsole(t *testing.T, s api.ForemanSuite, lines ...string) {
	t.Helper()
	var script, want []string
	for i := 0; i < len(lines); i += 2 {
		script, want = append(script, lines[i]+"\n"), append(want, lines[i+1]+"\n")
	}
	got, e := foreman.Console(s, strings.Join(script, ""))
	if e != api.OK {
		t.Fatalf("error %d", e)
	}
	said := strings.SplitAfter(got, "\n")
	if len(said) != len(want)+1 || said[len(want)] != "" {
		t.Fatalf("%d lines, want %d: %q", len(said)-1, len(want), got)
	}
	for i := range want {
		if said[i] != want[i] {
			t.Errorf("line %d, %q: %q, want %q", i, script[i], said[i], want[i])
		}
	}
}
