package foreman

import (
	"cmp"
	"strings"

	"nacre/api"
)

// Journal returns the journal.
func (d *Desk) Journal() (string, api.Errno) {
	if !d.isOpen() {
		return "", api.ErrNil
	}
	journal := ""
	for _, x := range d.entries {
		// an entry that was made is formed: there is no error
		line, _ := Write(x)
		journal += line + "\n"
	}
	return journal, api.OK
}

// Replay returns a desk at which all entries of a journal were made, and -1.
func Replay(s api.ForemanSuite, journal string) (*Desk, int, api.Errno) {
	d, e := openFor(s, journal)
	if e != api.OK {
		return nil, 0, e
	}
	at, rest := 0, journal
replay:
	for rest != "" {
		line, after, ended := strings.Cut(rest, "\n")
		e = d.repeat(line, ended)
		switch e {
		case api.OK:
			at, rest = at+1, after
		default:
			break replay
		}
	}
	if e != api.OK {
		return nil, at, e
	}
	return d, -1, api.OK
}

// Console returns the answers of a script.
func Console(s api.ForemanSuite, script string) (string, api.Errno) {
	d, e := openFor(s, script)
	if e != api.OK {
		return "", e
	}
	if script != "" && !strings.HasSuffix(script, "\n") {
		return "", api.ErrText
	}
	rest := script
	next := func() string {
		line, after, _ := strings.Cut(rest, "\n")
		rest = after
		return line
	}
	var answers strings.Builder
	for rest != "" {
		line := next()
		answers.WriteString(d.answer(line) + "\n")
	}
	return answers.String(), api.OK
}

// openFor returns a desk without entries, for the lines of a text.
func openFor(s api.ForemanSuite, text string) (*Desk, api.Errno) {
	d, e := Open(s)
	if e == api.OK && len(text) > api.ForemanText {
		return nil, api.ErrLong
	}
	return d, e
}

// repeat makes the entry of a line of a journal, which must have a line feed at its end.
func (d *Desk) repeat(line string, ended bool) api.Errno {
	x, e := Parse(line)
	if e != api.OK || !ended {
		return api.ErrText
	}
	return d.Enter(x)
}

// answer returns what a line of a script is answered with.
func (d *Desk) answer(line string) string {
	if len(line) > api.ForemanLine {
		return failed(api.ErrLong)
	}
	said := ""
	e := attempt(func() { said = d.reply(read(line)) })
	if e != api.OK {
		return failed(e)
	}
	return said
}

// reply makes the entry, or asks the question, of a row with numbers, and returns what it is answered with.
func (d *Desk) reply(r row, numbers []int) string {
	said := "noted"
	switch x := r.(type) {
	case entryRow:
		e := d.Enter(api.ForemanEntry{Kind: api.ForemanKind(x), Numbers: numbers})
		demand(e == api.OK, e)
	case askRow:
		answer, e := d.Ask(api.ForemanQuestion{Kind: x.kind(), Numbers: numbers})
		demand(e == api.OK, e)
		said = cmp.Or(joined(answer...), "nothing")
	}
	return said
}

// failed returns what a line with an error is answered with.
func failed(e api.Errno) string { return "error " + joined(int(e)) }
