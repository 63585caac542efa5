package dye

import (
	"maps"
	"slices"

	"nacre/api"
)

// lit is a house with a lamp.
type lit struct {
	api.DyeHouse
	weights []int
}

// gaps is the differences that can be, of two depths or of two looks: the first one less the second one.
type gaps map[int]bool

// Look returns between which bounds the look of a batch lies.
func Look(h api.DyeHouse, lamp api.DyeLamp, l []api.DyeBath) (api.Span, api.Errno) {
	if !isHouse(h) || !isLamp(h, lamp) || !isBatch(h, l) {
		return api.Span{}, api.ErrArg
	}
	return lit{h, lamp.Weights}.look(l), api.OK
}

// Apart returns between which bounds the difference of two looks lies.
func Apart(h api.DyeHouse, lamp api.DyeLamp, a, b []api.DyeBath) (api.Span, api.Errno) {
	if !isHouse(h) || !isLamp(h, lamp) || !isBatch(h, a) || !isBatch(h, b) {
		return api.Span{}, api.ErrArg
	}
	found := slices.Collect(maps.Keys(lit{h, lamp.Weights}.weigh(apart(h, a, b))))
	return api.Span{Low: slices.Min(found), High: slices.Max(found)}, api.OK
}

// Words returns what is known of whether two batches are alike under each lamp.
func Words(h api.DyeHouse, lamps []api.DyeLamp, a, b []api.DyeBath, eye api.Span) ([]api.DyeWord, api.Errno) {
	if !isHouse(h) || !areLamps(h, lamps) || !isBatch(h, a) || !isBatch(h, b) || !isEye(eye) {
		return nil, api.ErrArg
	}
	return words(h, lamps, a, b, eye), api.OK
}

// Ripe returns for how many hours a batch can be left in one bath more.
func Ripe(h api.DyeHouse, lamp api.DyeLamp, l []api.DyeBath, dye, temper int, want api.Span) (api.Span, api.Errno) {
	if !isHouse(h) || !isLamp(h, lamp) || !isBatch(h, l) || len(l) == api.DyeBaths || !isPlace(h, dye, temper) || !areLooks(want) {
		return api.Span{}, api.ErrArg
	}
	var ripe []int
	for hours := range api.DyeHours + 1 {
		more := api.DyeBath{Dye: dye, Temper: temper, Hours: api.Span{Low: hours, High: hours}}
		look := lit{h, lamp.Weights}.look(slices.Concat(l, []api.DyeBath{more}))
		if want.Low <= look.Low && look.High <= want.High {
			ripe = append(ripe, hours)
		} else if len(ripe) > 0 {
			break
		}
	}
	if len(ripe) == 0 {
		return api.Span{}, api.ErrNone
	}
	return api.Span{Low: ripe[0], High: ripe[len(ripe)-1]}, api.OK
}

// isLamp reports whether a lamp is one for a house, as defined.
func isLamp(h api.DyeHouse, lamp api.DyeLamp) bool {
	return len(lamp.Weights) == len(h.Dyes) && !slices.ContainsFunc(lamp.Weights, func(n int) bool {
		return !within(n, -api.DyeWeight, api.DyeWeight)
	})
}

// areLamps reports whether lamps are as many as can be asked about, and each is one for a house.
func areLamps(h api.DyeHouse, lamps []api.DyeLamp) bool {
	return within(len(lamps), 1, api.DyeLamps) && !slices.ContainsFunc(lamps, func(lamp api.DyeLamp) bool { return !isLamp(h, lamp) })
}

// isEye reports whether a span is an eye.
func isEye(s api.Span) bool { return isSpan(s, 0, api.DyeEye, api.DyeVary) }

// areLooks reports whether a span is one of looks, however wide.
func areLooks(s api.Span) bool { return isSpan(s, -api.DyeLook, api.DyeLook, 2*api.DyeLook) }

// look returns the least and the greatest look of a batch.
// No two dyes share what is not known of them: so the ends of their depths can come together.
func (h lit) look(l []api.DyeBath) api.Span {
	var least, most []int
	for dye := range len(h.Dyes) {
		var ends [2]int
		for i, end := range depthOf(h.DyeHouse, l, dye).ends() {
			ends[i] = h.weights[dye] * end()
		}
		least = append(least, min(ends[0], ends[1]))
		most = append(most, max(ends[0], ends[1]))
	}
	return api.Span{Low: sum(least...), High: sum(most...)}
}

// weigh returns the differences of looks that can be, from those of the depths of each dye.
func (h lit) weigh(depths []gaps) gaps {
	looks := gaps{0: true}
	for dye := range len(h.Dyes) {
		more := gaps{}
		for n := range looks {
			for gap := range depths[dye] {
				more[n+h.weights[dye]*gap] = true
			}
		}
		looks = more
	}
	return looks
}

// apart returns, for each dye, the differences of its depths in two batches that can be.
func apart(h api.DyeHouse, a, b []api.DyeBath) []gaps {
	var found []gaps
	for dye := range len(h.Dyes) {
		first, second := depthOf(h, a, dye), depthOf(h, b, dye)
		all := gaps{}
		// what the dye takes is the same for both batches, and their hours are not
		for takes := range lists(h.Dyes[dye].Takes) {
			others := second.all(takes)
			for n := range first.all(takes) {
				for m := range others {
					all[n-m] = true
				}
			}
		}
		found = append(found, all)
	}
	return found
}

// all returns the depths that can be if the dye takes so much at each temper.
func (d depth) all(takes []int) map[int]bool {
	found := map[int]bool{}
	for hours := range lists(hoursOf(d.baths)) {
		found[d.in(takes, hours)] = true
	}
	return found
}

// words returns what is known of whether two batches are alike under each lamp, for an eye.
func words(h api.DyeHouse, lamps []api.DyeLamp, a, b []api.DyeBath, eye api.Span) []api.DyeWord {
	depths := apart(h, a, b)
	var found []api.DyeWord
	for _, lamp := range lamps {
		found = append(found, lit{h, lamp.Weights}.weigh(depths).word(eye))
	}
	return found
}

// word returns what is known of whether looks that differ so are alike, for an eye.
func (g gaps) word(eye api.Span) api.DyeWord {
	some, all := false, true
	for gap := range g {
		some = some || distance(gap, 0) <= eye.High
		all = all && distance(gap, 0) <= eye.Low
	}
	return wordFor(some, all)
}
