package foreman_test

import (
	"reflect"
	"regexp"
	"slices"
	"strconv"
	"strings"
	"testing"

	"nacre/api"
	"nacre/foreman"
)

// wantLine fails unless an entry is written as a line, and parsed from it.
func wantLine(t *testing.T, x api.ForemanEntry, want string) {
	t.Helper()
	if got, e := foreman.Write(x); e != api.OK || got != want {
		t.Errorf("%v: %q, error %d, want %q", x, got, e, want)
	}
	if got, e := foreman.Parse(want); e != api.OK || got.Kind != x.Kind || !slices.Equal(got.Numbers, x.Numbers) {
		t.Errorf("%q: %v, error %d, want %v", want, got, e, x)
	}
}

// P10.8: each kind of entry has its line.
func TestWrite(t *testing.T) {
	wantLine(t, cut(0, 4, 1), "cut 0 4 1")
	wantLine(t, take(1, 2, 9999), "take 1 2 9999")
	wantLine(t, send(0, 10), "send 0 10")
	wantLine(t, bring(3, 100), "bring 3 100")
	wantLine(t, find(255, 99), "find 255 99")
	wantLine(t, strike(7), "strike 7")
	wantLine(t, cut(9999, 9999, 9999), "cut 9999 9999 9999")
	wantLine(t, send(0, 0), "send 0 0")
	for _, x := range []api.ForemanEntry{
		{}, entry(0, 1, 1, 1), entry(7, 1), entry(-1, 1), entry(far, 0, 0), entry(-far-1, 0, 0), entry(api.ForemanCut, 0, 0), entry(api.ForemanCut, 0, 0, 0, 0), entry(api.ForemanTake, 0, 0),
		entry(api.ForemanSend, 0), entry(api.ForemanBring, 0, 0, 0), entry(api.ForemanFind), entry(api.ForemanStrike), entry(api.ForemanStrike, 0, 0),
		cut(-1, 0, 0), cut(0, -far-1, 0), take(0, 0, 10000), send(10000, 0), bring(0, far), find(-1, -1), strike(10000), strike(-1),
	} {
		line, e := foreman.Write(x)
		wantError(t, "an entry that is not formed", e, api.ErrArg, line)
	}
}

// P10.8: what is not the line of an entry that is formed is not parsed.
func TestParse(t *testing.T) {
	for _, line := range []string{
		"", " ", "cut", "cut ", "cut 1 2", "cut 1 2 ", "cut 1 2 3 4", "cut 1 2 3 ", " cut 1 2 3", "cut  1 2 3", "cut 1 2  3", "cut\t1 2 3", "cut 1 2 3\n", "cut 1 2 3\r", "cut 1 2 3\x00",
		"Cut 1 2 3", "CUT 1 2 3", "cu 1 2 3", "cuts 1 2 3", "1 2 3", "7", "take 1 2", "send 1", "send 1 2 3", "bring", "bring 1 2 3", "find 1", "strike", "strike 1 2",
		"cut 01 2 3", "cut 1 2 00", "cut 1 2 +3", "cut 1 2 -3", "cut 1 2 -0", "cut 1 2 3.", "cut 1 2 0x3", "cut 1 2 a", "cut 1 2 ³", "cut 1 2 ٣", "cut 1 2 \xff", "cut 1 2 1e1", "cut 1 2 1_0",
		"send 1 10000", "send 10000 1", "strike 99999", "strike 00001", "strike 18446744073709551616", "strike 18446744073709551617", "strike 4294967296", "strike -1",
		"slices", "worth", "best", "sound", "gives 0 2 0", "window 1", "due 0", "who", "moulds 1 2", "stands", "noted", "strike " + strings.Repeat("1", 53), strings.Repeat("x", 60), strings.Repeat(" ", 60), "strike" + strings.Repeat(" ", 53) + "1",
	} {
		x, e := foreman.Parse(line)
		wantError(t, line, e, api.ErrText, x)
	}
	for _, line := range []string{strings.Repeat("x", 61), strings.Repeat("1", 61), "strike 1" + strings.Repeat(" ", 53), "strike " + strings.Repeat("0", 53) + "1", strings.Repeat("cut 0 0 0\n", 100000)} {
		x, e := foreman.Parse(line)
		wantError(t, "a long line", e, api.ErrLong, x)
	}
}

// formOf tells the lines of entries that are formed.
var formOf = regexp.MustCompile(`^(?:(cut|take) N N N|(send|bring|find) N N|(strike) N)$`)

// isLine reports whether a line is that of an entry that is formed.
func isLine(line string) bool {
	number := regexp.MustCompile(`\b(0|[1-9][0-9]{0,3})\b`)
	return !strings.Contains(line, "N") && formOf.MatchString(number.ReplaceAllString(line, "N"))
}

// lineBy returns a line by chance, often nearly that of an entry.
func lineBy(d *dice) string {
	words := []string{[]string{"cut", "take", "send", "bring", "find", "strike", "who", "gives", "cu", "", "N"}[d.upTo(10)]}
	for range d.upTo(4) {
		words = append(words, []string{"0", strconv.Itoa(d.upTo(12)), strconv.Itoa(d.upTo(11000)), "00", "-1", "", "9999", "10000", "x"}[d.upTo(8)])
	}
	line := []byte(strings.Join(words, " "))
	if len(line) > 0 && d.upTo(4) == 0 {
		line[d.upTo(len(line)-1)] = "0 9ca-\n\xff"[d.upTo(7)]
	}
	return string(line)
}

// P10.8: just the lines of entries that are formed are parsed, and each one is what its entry is written as.
func TestParseByChance(t *testing.T) {
	d := dice(10)
	parsed := 0
	for range 20000 {
		line := lineBy(&d)
		x, e := foreman.Parse(line)
		if !isLine(line) {
			wantError(t, line, e, api.ErrText, x)
			continue
		}
		if e != api.OK {
			t.Fatalf("%q: error %d", line, e)
		}
		wantLine(t, x, line)
		parsed++
	}
	if parsed < 300 {
		t.Errorf("%d were parsed", parsed)
	}
}

// P10.8, P0.11: what was written is parsed as what was written.
func TestWriteAndParse(t *testing.T) {
	d := dice(11)
	for range 3000 {
		x := entry(api.ForemanKind(d.from(1, 6)))
		for range list(0, 3, 3, 2, 2, 2, 1)[x.Kind] {
			x.Numbers = append(x.Numbers, d.upTo(list(0, 9, 99, 9999)[d.upTo(3)]))
		}
		line, e := foreman.Write(x)
		y, f := foreman.Parse(line)
		if e != api.OK || f != api.OK || !reflect.DeepEqual(x, y) {
			t.Fatalf("%v: %q, error %d, is parsed as %v, error %d", x, line, e, y, f)
		}
	}
}
