package dye

import (
	"slices"

	"nacre/api"
)

// Sorter returns the error of a sorter.
func Sorter(s api.DyeSorter) api.Errno {
	if !isSorter(s) {
		return api.ErrArg
	}
	return api.OK
}

// Lay returns the tray of each button, in truth.
func Lay(s api.DyeSorter, looks []int, eye int) ([]int, api.Errno) {
	if !isSorter(s) || len(looks) != len(s.Looks) || !lie(looks, s.Looks) || !lies(eye, s.Eye) {
		return nil, api.ErrArg
	}
	return lay(looks, eye, s.Tire), api.OK
}

// Proves returns what trays prove of looks, and of the eye.
func Proves(s api.DyeSorter, trays []int) ([]api.Span, api.Span, api.Errno) {
	if !isSorter(s) || len(trays) != len(s.Looks) || slices.ContainsFunc(trays, func(n int) bool { return !within(n, 0, len(trays)) }) {
		return nil, api.Span{}, api.ErrArg
	}
	var looks []api.Span
	var eye api.Span
	if e := attempt(func() { looks, eye = proven(s, trays) }); e != api.OK {
		return nil, api.Span{}, e
	}
	return looks, eye, api.OK
}

// Together returns what is known of whether two buttons come into the same tray.
func Together(s api.DyeSorter, a, b int) (api.DyeWord, api.Errno) {
	if !isSorter(s) || !within(a, 0, len(s.Looks)-1) || !within(b, 0, len(s.Looks)-1) {
		return 0, api.ErrArg
	}
	some, all := false, true
search:
	for eye := s.Eye.Low; eye <= s.Eye.High; eye++ {
		for looks := range lists(s.Looks) {
			trays := lay(looks, eye, s.Tire)
			same := trays[a] == trays[b]
			some, all = some || same, all && same
			if some && !all {
				break search
			}
		}
	}
	return wordFor(some, all), api.OK
}

// isSorter reports whether a sorter is as defined.
func isSorter(s api.DyeSorter) bool {
	return isEye(s.Eye) && within(s.Tire, 0, api.DyeTire) && within(len(s.Looks), 1, api.DyeButtons) && !slices.ContainsFunc(s.Looks, func(look api.Span) bool {
		return !isSpan(look, -api.DyeLook, api.DyeLook, api.DyeSlack)
	})
}

// lay returns the tray of each button with such a look, for an eye that tires so.
func lay(looks []int, eye, tire int) []int {
	var trays, firsts []int
	for n, look := range looks {
		tray := slices.IndexFunc(firsts, func(first int) bool { return distance(first, look) <= eye+n*tire })
		if tray < 0 {
			tray = len(firsts)
			firsts = append(firsts, look)
		}
		trays = append(trays, tray)
	}
	return trays
}

// proven returns the ends of each look, and of the eye, over all truths in which trays come so; it gives up if there is none.
func proven(s api.DyeSorter, trays []int) ([]api.Span, api.Span) {
	var found []api.Span
	var seen api.Span
	for eye := s.Eye.Low; eye <= s.Eye.High; eye++ {
		for looks := range lists(s.Looks) {
			if !slices.Equal(lay(looks, eye, s.Tire), trays) {
				continue
			}
			if found == nil {
				seen = only(eye)
				for _, look := range looks {
					found = append(found, only(look))
				}
			}
			seen = reaching(seen, eye)
			for i, look := range looks {
				found[i] = reaching(found[i], look)
			}
		}
	}
	if found == nil {
		panic(impossible{})
	}
	return found, seen
}
