package foreman_test

import (
	"slices"
	"testing"

	"nacre/api"
	"nacre/foreman"
)

// wantAnswer fails unless a question has an answer, or an error.
func wantAnswer(t *testing.T, d *foreman.Desk, q api.ForemanQuestion, want api.Errno, answer ...int) {
	t.Helper()
	got, e := d.Ask(q)
	if e != want || !slices.Equal(got, answer) {
		t.Errorf("%v: %v, error %d, want %v, error %d", q, got, e, answer, want)
	}
}

// P10.3: the questions of the chapter's desk, before and after its entries.
func TestAsk(t *testing.T) {
	d := opened(t, suiteS())
	wantAnswer(t, d, question(api.ForemanSlices), api.OK, 0, 0, 0, 0)
	wantAnswer(t, d, question(api.ForemanWorth), api.OK, 0, 0)
	wantAnswer(t, d, question(api.ForemanBest), api.OK, 24)
	wantAnswer(t, d, question(api.ForemanSound), api.OK, 0)
	wantAnswer(t, d, question(api.ForemanGives, 0, 2, 0), api.OK, 1, 2)
	wantAnswer(t, d, question(api.ForemanGives, 1, 2, 1), api.OK, 1, 1)
	wantAnswer(t, d, question(api.ForemanWindow, 0), api.OK, 2, 2)
	wantAnswer(t, d, question(api.ForemanWindow, 1), api.OK, 2, 3)
	wantAnswer(t, d, question(api.ForemanWindow, 2), api.OK, 0, 0)
	wantAnswer(t, d, question(api.ForemanDue, 0), api.OK, 0, 100, 0)
	wantAnswer(t, d, question(api.ForemanDue, 1), api.OK, 0, 0, 0)
	wantAnswer(t, d, question(api.ForemanWho), api.OK)
	wantAnswer(t, d, question(api.ForemanMoulds, 5, 9), api.OK, 1)
	wantAnswer(t, d, question(api.ForemanMoulds, 1, 9), api.OK, 0, 1)
	wantAnswer(t, d, question(api.ForemanMoulds, 1, 2), api.OK, 0)
	wantAnswer(t, d, question(api.ForemanMoulds, 1, 0), api.OK)
	wantAnswer(t, d, question(api.ForemanStands), api.OK)
	for _, x := range []api.ForemanEntry{cut(0, 0, 0), cut(0, 1, 0), cut(1, 2, 1), take(0, 2, 3), take(1, 2, 2), send(0, 4), bring(0, 3), find(1, 9), find(5, 9), find(1, 9), strike(9)} {
		wantError(t, "an entry", d.Enter(x), api.OK)
	}
	wantAnswer(t, d, question(api.ForemanSlices), api.OK, 5, 5, 4, 3)
	wantAnswer(t, d, question(api.ForemanWorth), api.OK, 22, 22)
	wantAnswer(t, d, question(api.ForemanBest), api.OK, 24)
	wantAnswer(t, d, question(api.ForemanSound), api.OK, 18)
	wantAnswer(t, d, question(api.ForemanDue, 0), api.OK, 0, 103, 1)
	wantAnswer(t, d, question(api.ForemanWho), api.OK, 2)
	wantAnswer(t, d, question(api.ForemanStands), api.OK, 0, 1, 2, 3, 4, 5, 6, 7, 8)
}

// P10.3: questions that are not as defined, or have no answer.
func TestAskErrors(t *testing.T) {
	d := opened(t, suiteS(), cut(0, 0, 0), find(1, 2))
	many := make([]int, 100000)
	for _, q := range []api.ForemanQuestion{
		question(0), question(11), question(-1), question(far), question(-far - 1), question(0, 0), {Numbers: many},
		question(api.ForemanSlices, 0), question(api.ForemanWorth, 0), question(api.ForemanBest, 0), question(api.ForemanSound, 0), question(api.ForemanWho, 0), question(api.ForemanStands, 0),
		question(api.ForemanGives), question(api.ForemanGives, 0, 0), question(api.ForemanGives, 0, 0, 0, 0), {Kind: api.ForemanGives, Numbers: many},
		question(api.ForemanWindow), question(api.ForemanWindow, 0, 0), question(api.ForemanDue), question(api.ForemanDue, 0, 0),
		question(api.ForemanMoulds), question(api.ForemanMoulds, 1), question(api.ForemanMoulds, 1, 2, 3),
		question(api.ForemanGives, 0, 0, 2), question(api.ForemanGives, 0, 0, -1), question(api.ForemanGives, 99, 0, far), question(api.ForemanGives, -1, -1, -far-1),
		question(api.ForemanWindow, 3), question(api.ForemanWindow, -1), question(api.ForemanWindow, far), question(api.ForemanWindow, -far-1),
		question(api.ForemanDue, 2), question(api.ForemanDue, -1), question(api.ForemanDue, far), question(api.ForemanDue, -far-1),
		question(api.ForemanMoulds, -1, 0), question(api.ForemanMoulds, 256, 0), question(api.ForemanMoulds, 0, -1), question(api.ForemanMoulds, 0, 100), question(api.ForemanMoulds, far, -far-1),
	} {
		wantAnswer(t, d, q, api.ErrArg)
	}
	for _, n := range [][]int{{0, 0, 1}, {-1, 0, 0}, {0, -1, 0}, {0, 3, 0}, {0, 4, 0}, {3, 0, 1}, {far, far, 1}, {-far - 1, 0, 0}, {1, 1, 0}} {
		wantAnswer(t, d, question(api.ForemanGives, n...), api.ErrNone)
	}
	// no smooth hour, no thin hour, and a smooth hour after the thin one
	s := changed(func(s *api.ForemanSuite) {
		s.Drum.Batches[0].Rough = 1000
		s.Drum.Batches[1].Thick = 60
		s.Drum.Batches[2].Rough = 22
	})
	d = opened(t, s)
	for batch := range 3 {
		wantAnswer(t, d, question(api.ForemanWindow, batch), api.ErrNone)
	}
}

// P10.3: a question changes nothing, and is answered so again.
func TestAskTwice(t *testing.T) {
	d := dice(7)
	for range 30 {
		s := worldBy(&d).suite
		session(t, &d, s, 20, func(desk *foreman.Desk, l *ledger, x api.ForemanEntry, e api.Errno) {
			first := answers(desk, s, 0)
			for i, again := range answers(desk, s, 0) {
				if !slices.Equal(again, first[i]) {
					t.Fatalf("%q: %v, then %v", l.journal(), first[i], again)
				}
			}
		})
	}
}

// stamp is a set of spots that a house can have stamped.
type stamp struct {
	house, set int
}

// stamps returns all that houses can have stamped, with the first day, by trying all truths of a book;
// none if there are too many.
func stamps(b api.MouldBook) map[stamp]int {
	var all []*int
	var spans []api.Span
	truth := api.MouldTruth{}
	truths := 1
	vary := func(at *int, s api.Span) {
		all, spans = append(all, at), append(spans, s)
		truths = min(100000, truths*(s.High-s.Low+1))
		*at = s.Low
	}
	truth.Cut = make([]int, len(b.Moulds))
	for i, m := range b.Moulds {
		truth.First, truth.Strikes, truth.Days = append(truth.First, make([]int, len(m.Marks))), append(truth.Strikes, make([]int, len(m.Loans))), append(truth.Days, make([]int, len(m.Loans)))
		vary(&truth.Cut[i], m.Cut)
		for j, mark := range m.Marks {
			vary(&truth.First[i][j], mark.First)
		}
		for j, loan := range m.Loans {
			vary(&truth.Strikes[i][j], loan.Strikes)
			vary(&truth.Days[i][j], loan.From)
		}
	}
	if truths > 20000 {
		return nil
	}
	found := map[stamp]int{}
	for {
		stampAll(b, truth, found)
		i := 0
		for i < len(all) && *all[i] == spans[i].High {
			*all[i] = spans[i].Low
			i++
		}
		if i == len(all) {
			return found
		}
		*all[i]++
	}
}

// stampAll adds what houses stamped, if that is a truth.
func stampAll(b api.MouldBook, truth api.MouldTruth, found map[stamp]int) {
	for _, days := range truth.Days {
		if !slices.IsSorted(days) {
			return
		}
	}
	var marks func(mould, strike int) int
	marks = func(mould, strike int) int {
		set := 0
		if b.Moulds[mould].Parent >= 0 {
			set = marks(b.Moulds[mould].Parent, truth.Cut[mould])
		}
		for i, first := range truth.First[mould] {
			if first <= strike {
				set |= 1 << b.Moulds[mould].Marks[i].Spot
			}
		}
		return set
	}
	for mould, m := range b.Moulds {
		at := 0
		for i, loan := range m.Loans {
			for range truth.Strikes[mould][i] {
				at++
				x := stamp{loan.House, marks(mould, at)}
				if day, is := found[x]; !is || truth.Days[mould][i] < day {
					found[x] = truth.Days[mould][i]
				}
			}
		}
	}
}

// ones returns how many spots are in a set.
func ones(set int) int {
	many := 0
	for ; set > 0; set /= 2 {
		many += set % 2
	}
	return many
}

// canStamp reports whether a house can have stamped a find.
func canStamp(b api.MouldBook, all map[stamp]int, house int, f api.MouldFind) bool {
	for x, day := range all {
		if x.house == house && day <= f.Day && ones(x.set&^f.Seen) <= b.Miss && ones(f.Seen&^x.set) <= b.Ghost {
			return true
		}
	}
	return false
}

// P10.6: each house that is returned can have stamped each crest that was found, and no other one can.
func TestWho(t *testing.T) {
	d := dice(8)
	books, many := 0, map[int]int{}
	for range 400 {
		s := worldBy(&d).suite
		all := stamps(s.Book)
		if all == nil {
			continue
		}
		books++
		desk := opened(t, s)
		var finds []api.MouldFind
		for range 30 {
			f := api.MouldFind{Seen: d.upTo(7), Day: d.upTo(30)}
			if desk.Enter(find(f.Seen, f.Day)) != api.OK {
				continue
			}
			finds = append(finds, f)
			var want []int
			for house := range 6 {
				if !slices.ContainsFunc(finds, func(f api.MouldFind) bool { return !canStamp(s.Book, all, house, f) }) {
					want = append(want, house)
				}
			}
			wantAnswer(t, desk, question(api.ForemanWho), api.OK, want...)
			many[len(want)]++
		}
	}
	if books < 100 || many[0] < 20 || many[1] < 100 || many[2] < 100 {
		t.Errorf("%d, %v", books, many)
	}
}

// P10.6: the house that stamped all crests is among those that are returned, whatever is true.
func TestWhoStamped(t *testing.T) {
	d := dice(9)
	found := 0
	for range 400 {
		w := worldBy(&d)
		desk := opened(t, w.suite)
		_, guilty, is := w.seenBy(&d)
		for range 30 {
			f, house, seen := w.seenBy(&d)
			if !is || !seen || house != guilty {
				continue
			}
			if e := desk.Enter(find(f.Seen, f.Day)); e != api.OK && e != api.ErrRule && e != api.ErrLong {
				t.Fatalf("%v: error %d", f, e)
			}
			journal, _ := desk.Journal()
			who, e := desk.Ask(question(api.ForemanWho))
			if e != api.OK || journal != "" && !slices.Contains(who, guilty) {
				t.Fatalf("%v: %q: %v, error %d, without %d", w.suite.Book, journal, who, e, guilty)
			}
			if journal != "" {
				found++
			}
		}
	}
	if found < 1000 {
		t.Errorf("%d were found", found)
	}
}
