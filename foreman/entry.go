package foreman

import (
	"cmp"
	"iter"
	"slices"

	"nacre/api"
	"nacre/drum"
	"nacre/mould"
	"nacre/shell"
)

// Enter makes an entry.
func (d *Desk) Enter(x api.ForemanEntry) api.Errno {
	switch {
	case !d.isOpen():
		return api.ErrNil
	case !isFormed(x):
		return api.ErrArg
	case len(d.entries) == api.ForemanEntries:
		return api.ErrLong
	}
	e := attempt(func() { deeds()[x.Kind](d, x.Numbers) })
	if e == api.OK {
		x.Numbers = slices.Clone(x.Numbers)
		d.entries = append(slices.Clip(d.entries), x)
	}
	return e
}

// deeds returns what each kind of entry does: it gives up if such an entry does not go after those that stand.
func deeds() map[api.ForemanKind]func(*Desk, []int) {
	return map[api.ForemanKind]func(*Desk, []int){
		api.ForemanCut:    (*Desk).cut,
		api.ForemanTake:   (*Desk).take,
		api.ForemanSend:   (*Desk).send,
		api.ForemanBring:  (*Desk).bring,
		api.ForemanFind:   (*Desk).find,
		api.ForemanStrike: (*Desk).strike,
	}
}

// cut is of a ROW, a COLUMN and a TUBE.
func (d *Desk) cut(n []int) {
	b := blankOf(n)
	gives, e := shell.Gives(d.work, b)
	demand(e != api.ErrArg, api.ErrArg)
	demand(e == api.OK && gives.Low > 0, api.ErrRule)
	// an error says that these blanks are no cutting
	_, e = shell.Worth(d.work, inOrder(append(d.cutting(), b)))
	demand(e == api.OK, api.ErrRule)
}

// take is of a BATCH, an HOUR, and MANY.
func (d *Desk) take(n []int) {
	batch, hour, many := n[0], n[1], n[2]
	known, e := drum.Known(d.drum, hour)
	demand(e == api.OK && within(batch, 0, len(d.drum.Batches)-1) && many > 0, api.ErrArg)
	for earlier := range d.ofKind(api.ForemanTake) {
		demand(earlier[0] != batch, api.ErrRule)
	}
	demand(d.isInTime(api.ForemanTake, n), api.ErrRule)
	b, state := d.drum.Batches[batch], known[batch]
	demand(state.Rough.High <= b.Goal && state.Thick.Low >= b.Least, api.ErrRule)
	demand(many <= d.had()-d.many(api.ForemanTake), api.ErrRule)
}

// send is of a HOUSE, and MANY.
func (d *Desk) send(n []int) {
	house, many := n[0], n[1]
	demand(d.hasHouse(house) && many > 0, api.ErrArg)
	demand(many <= d.many(api.ForemanTake)-d.many(api.ForemanSend), api.ErrRule)
}

// bring is of a HOUSE, and MANY.
func (d *Desk) bring(n []int) {
	house, many := n[0], n[1]
	demand(d.hasHouse(house) && many > 0, api.ErrArg)
	demand(many <= d.out(house), api.ErrRule)
}

// find is of what was SEEN, and a DAY.
func (d *Desk) find(n []int) {
	moulds, e := mould.Could(d.book, findOf(n))
	demand(e == api.OK, api.ErrArg)
	demand(d.isInTime(api.ForemanFind, n) && len(moulds) > 0, api.ErrRule)
}

// strike is of the number of an ENTRY.
func (d *Desk) strike(n []int) {
	struck := n[0]
	demand(within(struck, 0, len(d.entries)-1) && d.entries[struck].Kind != api.ForemanStrike, api.ErrArg)
	stands := false
	others := Desk{suite: d.suite}
	for entry, x := range d.standing() {
		if entry == struck {
			stands = true
			continue
		}
		demand(others.Enter(x) == api.OK, api.ErrRule)
	}
	demand(stands, api.ErrRule)
}

// standing goes through the entries that stand, with their numbers.
func (d *Desk) standing() iter.Seq2[int, api.ForemanEntry] {
	return func(yield func(int, api.ForemanEntry) bool) {
		struck := map[int]bool{}
		for _, x := range d.entries {
			if x.Kind == api.ForemanStrike {
				struck[x.Numbers[0]] = true
			}
		}
		for entry, x := range d.entries {
			if x.Kind == api.ForemanStrike || struck[entry] {
				continue
			}
			if !yield(entry, x) {
				return
			}
		}
	}
}

// ofKind goes through the numbers of the entries of a kind that stand.
func (d *Desk) ofKind(k api.ForemanKind) iter.Seq[[]int] {
	return func(yield func([]int) bool) {
		for _, x := range d.standing() {
			if x.Kind == k && !yield(x.Numbers) {
				return
			}
		}
	}
}

// isInTime reports whether no take that stands has a greater HOUR, or no find a greater DAY, than the numbers of another one.
// Both come second, and never decrease, so that the last one is the greatest.
func (d *Desk) isInTime(k api.ForemanKind, n []int) bool {
	earlier, found := last(d.ofKind(k))
	return !found || earlier[1] <= n[1]
}

// cutting returns the cutting.
func (d *Desk) cutting() []api.ShellBlank {
	var blanks []api.ShellBlank
	for n := range d.ofKind(api.ForemanCut) {
		blanks = append(blanks, blankOf(n))
	}
	return inOrder(blanks)
}

// had returns what was had.
func (d *Desk) had() int {
	had := 0
	for _, b := range d.cutting() {
		// a blank that was cut gives slices: there is no error
		gives, _ := shell.Gives(d.work, b)
		had += gives.Low
	}
	return had
}

// many returns the sum of the MANY of all entries of a kind that stand, which is the last one of their numbers.
func (d *Desk) many(k api.ForemanKind) int {
	sum := 0
	for n := range d.ofKind(k) {
		sum += n[len(n)-1]
	}
	return sum
}

// manyAt returns the sum of the MANY of all entries of a kind, about a house, that stand.
func (d *Desk) manyAt(k api.ForemanKind, house int) int {
	sum := 0
	for n := range d.ofKind(k) {
		if n[0] == house {
			sum += n[1]
		}
	}
	return sum
}

// out returns what is out at a house.
func (d *Desk) out(house int) int {
	return d.manyAt(api.ForemanSend, house) - d.manyAt(api.ForemanBring, house)
}

func (d *Desk) hasHouse(house int) bool { return within(house, 0, len(d.kept)-1) }

// blankOf returns the blank of a ROW, a COLUMN and a TUBE.
func blankOf(n []int) api.ShellBlank {
	return api.ShellBlank{Row: n[0], Column: n[1], Tube: n[2]}
}

// findOf returns the find of what was SEEN, and a DAY.
func findOf(n []int) api.MouldFind { return api.MouldFind{Seen: n[0], Day: n[1]} }

// inOrder puts blanks in the order of Row, then Column.
func inOrder(blanks []api.ShellBlank) []api.ShellBlank {
	slices.SortFunc(blanks, func(a, b api.ShellBlank) int {
		return cmp.Or(cmp.Compare(a.Row, b.Row), cmp.Compare(a.Column, b.Column))
	})
	return blanks
}
