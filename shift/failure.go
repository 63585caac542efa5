package shift

import (
	"slices"

	"nacre/api"
)

// failure is what fails in a house, and from which hour on.
type failure interface {
	// told returns the failure as callers know it.
	told() api.ShiftFailure
}

type nothing struct{}

type brokenFan struct {
	fan, hour int
}

type brokenMachine struct {
	room, hour int
}

// failing is a house with a failure, and between which ends the dust in each room is, in each hour, over all truths with it.
type failing struct {
	api.ShiftHouse
	failure failure
	dust    [][]api.Span
}

// Made returns what is made with a failure.
func Made(h api.ShiftHouse, f api.ShiftFailure) (int, api.Errno) {
	x, e := examineWith(h, f)
	if e != api.OK {
		return 0, e
	}
	return x.made(), api.OK
}

// Makes returns the least and the most that is made.
func Makes(h api.ShiftHouse) (api.Span, api.Errno) {
	d, e := examine(h)
	if e != api.OK {
		return api.Span{}, e
	}
	return d.bounds(func(f failing) api.Span {
		pieces := f.made()
		return api.Span{Low: pieces, High: pieces}
	}), api.OK
}

func (nothing) told() api.ShiftFailure { return api.ShiftFailure{What: api.ShiftNothing} }

func (x brokenFan) told() api.ShiftFailure {
	return api.ShiftFailure{What: api.ShiftFanFails, Number: x.fan, Hour: x.hour}
}

func (x brokenMachine) told() api.ShiftFailure {
	return api.ShiftFailure{What: api.ShiftMachine, Number: x.room, Hour: x.hour}
}

// failures returns all failures of a house, in order.
func failures(h api.ShiftHouse) []failure {
	all := []failure{nothing{}}
	for fan := range len(h.Fans) {
		for hour := range h.Hours {
			all = append(all, brokenFan{fan, hour})
		}
	}
	for room := range len(h.Rooms) {
		for hour := range h.Hours {
			all = append(all, brokenMachine{room, hour})
		}
	}
	return all
}

// fail returns a house with one of its failures.
func fail(h api.ShiftHouse, x failure) failing {
	f := failing{ShiftHouse: h, failure: x}
	for room, r := range h.Rooms {
		// more that is made never leaves less dust: so the ends of what is made give the ends of the dust
		low := f.gather(room, slices.Repeat([]int{r.Dust.Low}, h.Hours))
		high := f.gather(room, slices.Repeat([]int{r.Dust.High}, h.Hours))
		var bounds []api.Span
		for hour := range h.Hours {
			bounds = append(bounds, api.Span{Low: low[hour], High: high[hour]})
		}
		f.dust = append(f.dust, bounds)
	}
	return f
}

// out returns the fan that draws nothing in an hour, and the room whose machine stands still; -1 if there is none.
func (f failing) out(hour int) (fan, room int) {
	fan, room = -1, -1
	switch x := f.failure.(type) {
	case brokenFan:
		if hour >= x.hour {
			fan = x.fan
		}
	case brokenMachine:
		if within(hour, x.hour, x.hour+f.Rooms[x.room].Wait-1) {
			room = x.room
		}
	}
	return fan, room
}

// runs reports whether the machine of a room runs in an hour.
func (f failing) runs(room, hour int) bool {
	_, still := f.out(hour)
	return room != still && has(f.Open[hour], room)
}

// drawn returns how much all fans of a room draw in an hour.
func (f failing) drawn(room, hour int) int {
	broken, _ := f.out(hour)
	var draws []int
	for i, fan := range f.Fans {
		if i != broken && fan.Room == room {
			draws = append(draws, fan.Draws)
		}
	}
	return sum(draws...)
}

// gather returns the dust in a room, in each hour, if so much is made in each hour in which its machine runs.
func (f failing) gather(room int, made []int) []int {
	var dust []int
	left := f.Rooms[room].Start
	for hour := range f.Hours {
		if f.runs(room, hour) {
			left = sum(left, made[hour])
		}
		left = max(0, left-f.drawn(room, hour))
		dust = append(dust, left)
	}
	return dust
}

// holds reports whether machines can make so much dust.
func (f failing) holds(dust [][]int) bool {
	for room, made := range dust {
		s := f.Rooms[room].Dust
		if !areAll(made, func(n int) bool { return within(n, s.Low, s.High) }) {
			return false
		}
	}
	return true
}

// made returns how many pieces are made in all.
func (f failing) made() int {
	var pieces []int
	for room, r := range f.Rooms {
		for hour := range f.Hours {
			if f.runs(room, hour) {
				pieces = append(pieces, r.Make)
			}
		}
	}
	return sum(pieces...)
}
