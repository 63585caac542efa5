package foreman

import (
	"nacre/api"
	"nacre/card"
	"nacre/drum"
	"nacre/mould"
	"nacre/shell"
)

// askRow is the row of a kind of questions, by its number.
type askRow int

// The questions, in the order of their kinds, and how many there are.
const (
	slicesAsk askRow = iota
	worthAsk
	bestAsk
	soundAsk
	givesAsk
	windowAsk
	dueAsk
	whoAsk
	mouldsAsk
	standsAsk
	asks
)

// Ask returns the answer of a question.
func (d *Desk) Ask(q api.ForemanQuestion) ([]int, api.Errno) {
	switch {
	case !d.isOpen():
		return nil, api.ErrNil
	case !isAsked(q):
		return nil, api.ErrArg
	}
	var answer []int
	e := attempt(func() { answer = d.answers()[rowOf(q.Kind)](q.Numbers) })
	return answer, e
}

// rowOf returns the row of a kind of questions.
func rowOf(k api.ForemanAsk) askRow { return askRow(k - api.ForemanSlices) }

// kind returns the kind of questions of a row.
func (x askRow) kind() api.ForemanAsk { return api.ForemanSlices + api.ForemanAsk(x) }

// isAsked reports whether a question is of a kind that there is, and has as many numbers as its line.
func isAsked(q api.ForemanQuestion) bool {
	if !within(int(q.Kind), int(api.ForemanSlices), int(api.ForemanStands)) {
		return false
	}
	return len(q.Numbers) == rowOf(q.Kind).shape().many
}

// answers returns what each question is answered with: it gives up if there is no answer.
func (d *Desk) answers() [asks]func([]int) []int {
	return [asks]func([]int) []int{
		slicesAsk: d.slices,
		worthAsk:  d.worth,
		bestAsk:   d.best,
		soundAsk:  d.sound,
		givesAsk:  d.gives,
		windowAsk: d.window,
		dueAsk:    d.due,
		whoAsk:    d.who,
		mouldsAsk: d.moulds,
		standsAsk: d.stands,
	}
}

// slices returns what was had, what was polished, what was sent, and what was brought.
func (d *Desk) slices([]int) []int {
	return []int{d.had(), d.many(api.ForemanTake), d.many(api.ForemanSend), d.many(api.ForemanBring)}
}

// worth returns the least and the most that the cutting is worth.
func (d *Desk) worth([]int) []int {
	worth, e := shell.Worth(d.work, d.cutting())
	return ends(worth, e)
}

// best returns what the best cutting surely is worth.
func (d *Desk) best([]int) []int {
	_, worth, e := shell.Pack(d.work)
	demand(e == api.OK, e)
	return []int{worth}
}

// sound returns what the cutting is worth wherever holes are.
func (d *Desk) sound([]int) []int {
	worth, e := shell.Sound(d.work, d.cutting())
	demand(e == api.OK, e)
	return []int{worth}
}

// gives returns the fewest and the most slices of the blank of a ROW, a COLUMN and a TUBE.
func (d *Desk) gives(n []int) []int {
	many, e := shell.Gives(d.work, blankOf(n))
	return ends(many, e)
}

// window returns the smooth hour and the thin hour of a BATCH.
func (d *Desk) window(n []int) []int {
	smooth, e := drum.Smooth(d.drum, n[0])
	demand(e == api.OK, e)
	thin, e := drum.Thin(d.drum, n[0])
	demand(e == api.OK, e)
	demand(smooth <= thin, api.ErrNone)
	return []int{smooth, thin}
}

// due returns what a HOUSE was paid, what is kept, and what is out.
func (d *Desk) due(n []int) []int {
	house := n[0]
	demand(d.hasHouse(house), api.ErrArg)
	paid, kept, e := card.Pay(d.rate, d.kept[house], []int{d.manyAt(api.ForemanBring, house)})
	demand(e == api.OK, e)
	return []int{paid[0], kept, d.out(house)}
}

// who returns the houses of the book that can have stamped each of the finds that stand.
func (d *Desk) who([]int) []int {
	finds := 0
	// stamped says, house by house, how many of the finds each one can have stamped
	var stamped [api.MouldHouses]int
	for n := range d.ofKind(api.ForemanFind) {
		houses, e := mould.Who(d.book, findOf(n))
		demand(e == api.OK, e)
		for _, house := range houses {
			stamped[house]++
		}
		finds++
	}
	var who []int
	for house := range api.MouldHouses {
		if finds > 0 && stamped[house] == finds {
			who = append(who, house)
		}
	}
	return who
}

// moulds returns the moulds that can have stamped a crest on which something was SEEN on a DAY.
func (d *Desk) moulds(n []int) []int {
	moulds, e := mould.Could(d.book, findOf(n))
	demand(e == api.OK, e)
	return moulds
}

// stands returns the numbers of all entries that stand.
func (d *Desk) stands([]int) []int {
	var numbers []int
	for entry := range d.standing() {
		numbers = append(numbers, entry)
	}
	return numbers
}

// ends returns both ends of a span; it gives up if a call had an error in its place.
func ends(s api.Span, e api.Errno) []int {
	demand(e == api.OK, e)
	return []int{s.Low, s.High}
}
