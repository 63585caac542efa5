package foreman_test

import (
	"slices"
	"strconv"
	"strings"
	"testing"

	"nacre/api"
	"nacre/foreman"
)

// P10.10: the examples of the chapter.
func TestChapter(t *testing.T) {
	wantConsole(t, suiteS(),
		"gives 0 2 0", "1 2",
		"cut 0 0 0", "noted",
		"cut 0 1 0", "noted",
		"cut 0 0 1", "error 7",
		"cut 1 2 1", "noted",
		"slices", "5 0 0 0",
		"worth", "22 22",
		"best", "24",
		"sound", "18",
		"window 1", "2 3",
		"take 0 1 2", "error 7",
		"take 0 2 3", "noted",
		"take 1 2 3", "error 7",
		"take 1 2 2", "noted",
		"send 0 4", "noted",
		"send 1 2", "error 7",
		"bring 0 3", "noted",
		"due 0", "0 103 1",
		"find 5 9", "noted",
		"who", "2",
		"find 1 2", "error 7",
		"find 1 9", "noted",
		"strike 0", "error 7",
		"strike 7", "noted",
		"who", "0 1 2",
		"strike 9", "error 2",
		"stands", "0 1 2 3 4 5 6 8",
		"moulds 1 2", "0",
		"bring 0", "error 4",
	)
}

// P10.10: lines that have no answer, and lines that are none.
func TestConsole(t *testing.T) {
	wantConsole(t, suiteS(),
		"stands", "nothing", "who", "nothing", "moulds 1 0", "nothing", "slices", "0 0 0 0",
		"gives 0 0 1", "error 5", "gives 9999 9999 0", "error 5", "gives 0 0 2", "error 2", "window 3", "error 2", "due 2", "error 2", "moulds 256 0", "error 2", "moulds 9999 9999", "error 2",
		"cut 0 0 2", "error 2", "cut 9 9 0", "error 7", "strike 0", "error 2", "send 0 1", "error 7",
		"", "error 4", " ", "error 4", "who ", "error 4", " who", "error 4", "who 1", "error 4", "Who", "error 4", "who\r", "error 4", "whom", "error 4", "window", "error 4", "window 1 2", "error 4",
		"window -1", "error 4", "window 01", "error 4", "window 10000", "error 4", "moulds 1  2", "error 4", "gives 0 0", "error 4", "cut 0 0", "error 4", "noted", "error 4", "strike 10000", "error 4", "\xff", "error 4",
		strings.Repeat("x", 60), "error 4", strings.Repeat("x", 61), "error 3", strings.Repeat(" ", 61), "error 3", strings.Repeat("window 1 ", 30), "error 3",
		"stands", "nothing", "cut 0 0 0", "noted", "stands", "0",
	)
	var full []string
	for n := range 12 {
		full = append(full, "cut 0 0 0", "noted", "strike "+strconv.Itoa(2*n), "noted")
	}
	wantConsole(t, suiteS(), append(full, "cut 0 0 0", "error 3", "cut 0 0 9", "error 3", "cut 0 0", "error 4", "strike 0", "error 3", "stands", "nothing")...)
}

// P10.10: scripts that are none.
func TestConsoleErrors(t *testing.T) {
	for _, x := range []struct {
		script string
		want   string
		e      api.Errno
	}{
		{"", "", api.OK},
		{"\n", "error 4\n", api.OK},
		{"\n\n", "error 4\nerror 4\n", api.OK},
		{"best\n\nbest\n", "24\nerror 4\n24\n", api.OK},
		{"best", "", api.ErrText},
		{"best\nbest", "", api.ErrText},
		{"best\n ", "", api.ErrText},
		{"best\r", "", api.ErrText},
		{strings.Repeat("best\n", 300), strings.Repeat("24\n", 300), api.OK},
		{strings.Repeat("best\n", 299) + "cut 0", "", api.ErrText},
		{strings.Repeat("best\n", 300) + "\n", "", api.ErrLong},
		{strings.Repeat("best\n", 300) + " ", "", api.ErrLong},
		{strings.Repeat("x", 1499) + "\n", "error 3\n", api.OK},
		{strings.Repeat("x", 1500) + "\n", "", api.ErrLong},
		{strings.Repeat("x", 1500), "", api.ErrText},
		{strings.Repeat("\n", 1500), strings.Repeat("error 4\n", 1500), api.OK},
		{strings.Repeat("\n", 1501), "", api.ErrLong},
	} {
		got, e := foreman.Console(suiteS(), x.script)
		if e != x.e || got != x.want {
			t.Errorf("%q: %q, error %d, want %q, error %d", x.script, got, e, x.want, x.e)
		}
	}
	answers, e := foreman.Console(badSuites()["5 Kept"], strings.Repeat("x", 1501))
	wantError(t, "a bad suite", e, api.ErrArg, answers)
}

// said returns what a ledger answers a line with.
func (l *ledger) said(text string) string {
	if len(text) > 60 {
		return "error 3"
	}
	words := strings.Split(text, " ")
	var numbers []int
	for _, word := range words[1:] {
		n, e := strconv.Atoi(word)
		if e != nil || strconv.Itoa(n) != word || n < 0 || n > 9999 {
			return "error 4"
		}
		numbers = append(numbers, n)
	}
	for k := api.ForemanCut; k <= api.ForemanStrike; k++ {
		if x := entry(k, numbers...); words[0] == entryWord(k) && formed(x) {
			return outcome("noted", l.enter(x))
		}
	}
	for k := api.ForemanSlices; k <= api.ForemanStands; k++ {
		if words[0] == askWord(k) && len(numbers) == list(0, 0, 0, 0, 0, 3, 1, 1, 0, 2, 0)[k] {
			found, e := l.ask(question(k, numbers...))
			if len(found) == 0 {
				return outcome("nothing", e)
			}
			return outcome(line("", found...)[1:], e)
		}
	}
	return "error 4"
}

// outcome returns a line, or that of an error.
func outcome(text string, e api.Errno) string {
	if e != api.OK {
		return line("error", int(e))
	}
	return text
}

// P10.10: scripts by chance are answered line by line.
func TestConsoleByChance(t *testing.T) {
	d := dice(12)
	many := map[string]int{}
	for range 300 {
		w := worldBy(&d)
		l := newLedger(w.suite)
		asked := questions(w.suite)
		script, want := "", ""
		for {
			text := ""
			switch k := d.upTo(9); {
			case k < 6:
				x := entryBy(&d, l)
				text = line(entryWord(x.Kind), x.Numbers...)
			case k < 9:
				q := asked[d.upTo(len(asked)-1)]
				if q.Kind < 1 || q.Kind > 10 {
					continue
				}
				text = line(askWord(q.Kind), q.Numbers...)
			default:
				text = strings.ReplaceAll(lineBy(&d), "\n", "")
			}
			if len(script)+len(text) >= 1500 {
				break
			}
			answer := l.said(text)
			many[answer]++
			script, want = script+text+"\n", want+answer+"\n"
		}
		if got, e := foreman.Console(w.suite, script); e != api.OK || got != want {
			t.Fatalf("%q: %q, error %d, want %q", script, got, e, want)
		}
	}
	for _, answer := range []string{"noted", "nothing", "error 2", "error 3", "error 4", "error 5", "error 7"} {
		if many[answer] < 50 {
			t.Errorf("%d times %s", many[answer], answer)
		}
	}
}

// P10.9: what was entered is in the journal, struck or not, and what was not made is not.
func TestJournal(t *testing.T) {
	d := opened(t, suiteS())
	if journal, e := d.Journal(); e != api.OK || journal != "" {
		t.Errorf("%q, error %d", journal, e)
	}
	for _, x := range []api.ForemanEntry{cut(0, 0, 0), cut(0, 0, 1), cut(0, 1, 0), take(2, 0, 4), send(1, 3), bring(1, 2), bring(1, 2), find(1, 9), strike(4), strike(9), find(5, 10)} {
		d.Enter(x)
	}
	const want = "cut 0 0 0\ncut 0 1 0\ntake 2 0 4\nsend 1 3\nbring 1 2\nfind 1 9\nstrike 4\nfind 5 10\n"
	if journal, e := d.Journal(); e != api.OK || journal != want {
		t.Errorf("%q, error %d, want %q", journal, e, want)
	}
}

// replayed makes the entries of a journal at a new desk, line by line.
func replayed(t *testing.T, s api.ForemanSuite, journal string) (int, api.Errno) {
	t.Helper()
	d := opened(t, s)
	lines := strings.SplitAfter(journal, "\n")
	for i, text := range lines {
		if text == "" && i == len(lines)-1 {
			break
		}
		x, e := foreman.Parse(strings.TrimSuffix(text, "\n"))
		if e != api.OK || !strings.HasSuffix(text, "\n") {
			return i, api.ErrText
		}
		if e := d.Enter(x); e != api.OK {
			return i, e
		}
	}
	return -1, api.OK
}

// P10.9: journals that cannot be played again.
func TestReplayErrors(t *testing.T) {
	const j = "cut 0 0 0\nstrike 0\ncut 0 1 0\n"
	full := ""
	for n := range 12 {
		full += "cut 0 0 0\nstrike " + strconv.Itoa(2*n) + "\n"
	}
	for _, x := range []struct {
		journal string
		at      int
		e       api.Errno
	}{
		{"", -1, api.OK},
		{j, -1, api.OK},
		{full, -1, api.OK},
		{"\n", 0, api.ErrText},
		{"cut 0 0 0", 0, api.ErrText},
		{"cut 0 3 0", 0, api.ErrText}, // without a line feed, whatever the entry is
		{"cut 0 3 0\n", 0, api.ErrRule},
		{"cut 0 3 0\nwho\n", 0, api.ErrRule},
		{"cut 0 0 2\n", 0, api.ErrArg},
		{j + "who\n", 3, api.ErrText},
		{j + "\n", 3, api.ErrText},
		{j + "\n" + j, 3, api.ErrText},
		{j + " ", 3, api.ErrText},
		{j + "strike 2", 3, api.ErrText},
		{j + "strike 2\r\n", 3, api.ErrText},
		{j + "strike 02\n", 3, api.ErrText},
		{j + "strike 0\n", 3, api.ErrRule},
		{j + "strike 1\n", 3, api.ErrArg},
		{j + "strike 3\n", 3, api.ErrArg},
		{j + "send 0 0\n", 3, api.ErrArg},
		{j + j, 3 + 1, api.ErrRule},
		{j + strings.Repeat("x", 60) + "\n", 3, api.ErrText},
		{j + strings.Repeat("x", 61) + "\n", 3, api.ErrText},
		{j + strings.Repeat("x", 70), 3, api.ErrText},
		{full + "cut 0 0 0\n", 24, api.ErrLong},
		{full + "cut 0 0 9\n", 24, api.ErrLong},
		{full + "cut 0 0\n", 24, api.ErrText},
		{full + "cut 0 0 0", 24, api.ErrText},
		{strings.Repeat("x", 1500), 0, api.ErrText},
		{strings.Repeat("x", 1501), 0, api.ErrLong},
		{j + strings.Repeat("\n", 1500), 0, api.ErrLong},
		{"who\n" + strings.Repeat("\n", 1500), 0, api.ErrLong},
	} {
		d, at, e := foreman.Replay(suiteS(), x.journal)
		if e != x.e || at != x.at || (d == nil) != (e != api.OK) {
			t.Errorf("%q: a desk: %t, the line %d, error %d, want %d, error %d", x.journal, d != nil, at, e, x.at, x.e)
		}
	}
	d, at, e := foreman.Replay(badSuites()["a Rate of -1"], strings.Repeat("x", 1501))
	wantError(t, "a bad suite", e, api.ErrArg, d, at)
}

// P10.9, P0.10: a journal, played again, gives a desk with the same answers and the same journal, at which entries can be made.
func TestReplay(t *testing.T) {
	d := dice(13)
	for range 100 {
		s := worldBy(&d).suite
		desk, l := opened(t, s), newLedger(s)
		for range 40 {
			x := entryBy(&d, l)
			desk.Enter(x)
			l.enter(x)
		}
		other, at, e := foreman.Replay(s, l.journal())
		if e != api.OK || at != -1 || other == nil {
			t.Fatalf("%q: the line %d, error %d", l.journal(), at, e)
		}
		wantLedger(t, other, l)
		got, want := answers(other, s, 0), answers(desk, s, 0)
		if !slices.EqualFunc(got, want, slices.Equal[[]int]) {
			t.Fatalf("%q: %v, want %v", l.journal(), got, want)
		}
		for range 20 {
			x := entryBy(&d, l)
			if e, f := other.Enter(x), l.enter(x); e != f {
				t.Fatalf("%q: %v: error %d, want %d", l.journal(), x, e, f)
			}
		}
		wantLedger(t, other, l)
		wantLedger(t, desk, playedBy(t, desk, s))
	}
}

// playedBy returns the ledger of what was made at a desk, by its journal.
func playedBy(t *testing.T, d *foreman.Desk, s api.ForemanSuite) *ledger {
	t.Helper()
	l := newLedger(s)
	journal, _ := d.Journal()
	for text := range strings.Lines(journal) {
		x, e := foreman.Parse(strings.TrimSuffix(text, "\n"))
		if e != api.OK || l.enter(x) != api.OK {
			t.Fatalf("%q in %q", text, journal)
		}
	}
	return l
}

// P10.9: journals by chance in which something was changed are played until a line with which it cannot be.
func TestReplayByChance(t *testing.T) {
	d := dice(14)
	errors := map[api.Errno]int{}
	for range 500 {
		s := worldBy(&d).suite
		l := newLedger(s)
		for range 40 {
			l.enter(entryBy(&d, l))
		}
		lines := strings.SplitAfter(l.journal(), "\n")
		at := d.upTo(len(lines) - 1)
		switch d.upTo(3) {
		case 0:
			lines = slices.Delete(lines, at, min(len(lines), at+1))
		case 1:
			lines = slices.Insert(lines, at, lineBy(&d)+"\n")
		case 2:
			lines[at] = strings.TrimSuffix(lines[at], "\n")
		case 3:
			other := d.upTo(len(lines) - 1)
			lines[at], lines[other] = lines[other], lines[at]
		}
		journal := strings.Join(lines, "")
		want, e := replayed(t, s, journal)
		desk, got, f := foreman.Replay(s, journal)
		if f != e || got != want || (desk == nil) != (e != api.OK) {
			t.Fatalf("%q: the line %d, error %d, want %d, error %d", journal, got, f, want, e)
		}
		errors[e]++
	}
	for _, e := range []api.Errno{api.OK, api.ErrArg, api.ErrText, api.ErrRule} {
		if errors[e] < 10 {
			t.Errorf("%v", errors)
		}
	}
}
