package shift_test

import (
	"reflect"
	"slices"
	"strings"
	"testing"

	"nacre/api"
)

// dice gives numbers that look random, and are the same each time.
type dice uint64

func (d *dice) upTo(n int) int {
	*d = *d*6364136223846793005 + 1442695040888963407
	return int(uint64(*d)>>33) % (n + 1)
}

func (d *dice) from(low, high int) int { return low + d.upTo(high-low) }

// span returns a span by chance from low to high, and at most so wide.
func (d *dice) span(low, high, wide int) api.Span {
	n := d.from(low, high)
	return span(n, d.from(n, min(high, n+wide)))
}

func span(low, high int) api.Span { return api.Span{Low: low, High: high} }

func only(n int) api.Span { return span(n, n) }

func room(dust api.Span, pieces, wait, start int) api.ShiftRoom {
	return api.ShiftRoom{Dust: dust, Make: pieces, Wait: wait, Start: start}
}

func hand(limit, most int) api.ShiftHand { return api.ShiftHand{Limit: limit, Most: most} }

// noFailure is the failure with which nothing fails.
func noFailure() api.ShiftFailure { return api.ShiftFailure{What: api.ShiftNothing} }

func fanFails(fan, hour int) api.ShiftFailure {
	return api.ShiftFailure{What: api.ShiftFanFails, Number: fan, Hour: hour}
}

func machineFails(room, hour int) api.ShiftFailure {
	return api.ShiftFailure{What: api.ShiftMachine, Number: room, Hour: hour}
}

// houseH returns the house h of the chapter.
func houseH() api.ShiftHouse {
	return api.ShiftHouse{
		Hours: 3,
		Rooms: []api.ShiftRoom{room(span(4, 6), 10, 2, 0), room(span(1, 2), 5, 1, 3)},
		Fans:  []api.ShiftFan{{Room: 0, Draws: 4}, {Room: 1, Draws: 1}},
		Open:  []int{3, 3, 1},
		Hands: []api.ShiftHand{hand(20, 2), hand(20, 3), hand(20, 2)},
	}
}

// changed returns the house h with some change.
func changed(change func(h *api.ShiftHouse)) api.ShiftHouse {
	h := houseH()
	change(&h)
	return h
}

// bareHouse returns the house of which the chapter has the sheet.
func bareHouse() api.ShiftHouse {
	return api.ShiftHouse{Hours: 1, Rooms: make([]api.ShiftRoom, 1), Open: []int{0}, Hands: make([]api.ShiftHand, 1)}
}

// fullHouse returns a house with as much of everything as there can be.
func fullHouse() api.ShiftHouse {
	return api.ShiftHouse{
		Hours: 4,
		Rooms: slices.Repeat([]api.ShiftRoom{room(span(50, 50), 1000, 4, 50)}, 3),
		Fans:  slices.Repeat([]api.ShiftFan{{Room: 2, Draws: 50}}, 4),
		Open:  slices.Repeat([]int{7}, 4),
		Hands: slices.Repeat([]api.ShiftHand{hand(2000, 4)}, 4),
	}
}

// badHouses returns houses that are not as defined.
func badHouses() map[string]api.ShiftHouse {
	bad := map[string]api.ShiftHouse{"nothing": {}}
	for name, change := range map[string]func(h *api.ShiftHouse){
		"no hours":             func(h *api.ShiftHouse) { h.Hours, h.Open = 0, nil },
		"5 hours":              func(h *api.ShiftHouse) { h.Hours, h.Open = 5, make([]int, 5) },
		"an hour less":         func(h *api.ShiftHouse) { h.Hours = 2 },
		"an hour more":         func(h *api.ShiftHouse) { h.Hours = 4 },
		"hours below 0":        func(h *api.ShiftHouse) { h.Hours, h.Open = -1, nil },
		"far too many hours":   func(h *api.ShiftHouse) { h.Hours = 1<<63 - 1 },
		"no sets":              func(h *api.ShiftHouse) { h.Open = nil },
		"many sets":            func(h *api.ShiftHouse) { h.Open = make([]int, 1000000) },
		"no rooms":             func(h *api.ShiftHouse) { h.Rooms, h.Fans, h.Open = nil, nil, make([]int, 3) },
		"4 rooms":              func(h *api.ShiftHouse) { h.Rooms = slices.Repeat(h.Rooms, 2) },
		"many rooms":           func(h *api.ShiftHouse) { h.Rooms = slices.Repeat(h.Rooms, 100000) },
		"5 fans":               func(h *api.ShiftHouse) { h.Fans = make([]api.ShiftFan, 5) },
		"no hands":             func(h *api.ShiftHouse) { h.Hands = nil },
		"5 hands":              func(h *api.ShiftHouse) { h.Hands = make([]api.ShiftHand, 5) },
		"dust turned":          func(h *api.ShiftHouse) { h.Rooms[1].Dust = span(2, 1) },
		"dust from -1":         func(h *api.ShiftHouse) { h.Rooms[0].Dust = span(-1, 1) },
		"dust of -1":           func(h *api.ShiftHouse) { h.Rooms[0].Dust = only(-1) },
		"dust to 51":           func(h *api.ShiftHouse) { h.Rooms[1].Dust = span(50, 51) },
		"dust of all":          func(h *api.ShiftHouse) { h.Rooms[1].Dust = span(-1<<63, 1<<63-1) },
		"dust of all, turned":  func(h *api.ShiftHouse) { h.Rooms[1].Dust = span(1<<63-1, -1<<63) },
		"a Make of -1":         func(h *api.ShiftHouse) { h.Rooms[0].Make = -1 },
		"a Make of 1001":       func(h *api.ShiftHouse) { h.Rooms[1].Make = 1001 },
		"a Wait of -1":         func(h *api.ShiftHouse) { h.Rooms[1].Wait = -1 },
		"a Wait of 5":          func(h *api.ShiftHouse) { h.Rooms[0].Wait = 5 },
		"a Start of -1":        func(h *api.ShiftHouse) { h.Rooms[0].Start = -1 },
		"a Start of 51":        func(h *api.ShiftHouse) { h.Rooms[1].Start = 51 },
		"a fan in the room 2":  func(h *api.ShiftHouse) { h.Fans[1].Room = 2 },
		"a fan in the room -1": func(h *api.ShiftHouse) { h.Fans[0].Room = -1 },
		"a fan that draws -1":  func(h *api.ShiftHouse) { h.Fans[0].Draws = -1 },
		"a fan that draws 51":  func(h *api.ShiftHouse) { h.Fans[1].Draws = 51 },
		"a set of 4":           func(h *api.ShiftHouse) { h.Open[2] = 4 },
		"a set of -1":          func(h *api.ShiftHouse) { h.Open[0] = -1 },
		"a limit of -1":        func(h *api.ShiftHouse) { h.Hands[0].Limit = -1 },
		"a limit of 2001":      func(h *api.ShiftHouse) { h.Hands[2].Limit = 2001 },
		"a Most of -1":         func(h *api.ShiftHouse) { h.Hands[2].Most = -1 },
		"a Most of 5":          func(h *api.ShiftHouse) { h.Hands[1].Most = 5 },
	} {
		bad[name] = changed(change)
	}
	return bad
}

// badPaths returns lists that are no paths of the house h.
func badPaths() map[string][]int {
	return map[string][]int{
		"nothing":          nil,
		"an hour less":     {0, 1},
		"an hour more":     {0, 1, -1, -1},
		"many hours":       make([]int, 1000000),
		"the room 2":       {0, 1, 2},
		"the room -2":      {-2, 1, 0},
		"a room far above": {0, 1<<63 - 1, 0},
		"a room far below": {0, -1 << 63, 0},
	}
}

// badFailures returns failures that are none of the house h.
func badFailures() []api.ShiftFailure {
	return []api.ShiftFailure{
		{}, {What: api.ShiftNothing, Number: 1}, {What: api.ShiftNothing, Hour: 1}, {What: api.ShiftNothing, Number: -1},
		fanFails(2, 0), fanFails(-1, 0), fanFails(0, 3), fanFails(1, -1), fanFails(1<<63-1, 0),
		machineFails(2, 0), machineFails(-1, 0), machineFails(0, 3), machineFails(1, -1), machineFails(0, -1<<63),
		{What: 4}, {What: -1}, {What: 1<<63 - 1}, {Number: 1, Hour: 1},
	}
}

// size is how large a house by chance can be, and how wide the spans of its dust.
type size struct {
	hours, rooms, fans, hands, wide int
}

// large is the size of any house; small is that of houses of which all truths can be tried.
func large() size {
	return size{api.ShiftHours, api.ShiftRooms, api.ShiftFans, api.ShiftHands, api.ShiftDust}
}

func small() size { return size{3, 2, 2, 3, 1} }

// houseBy returns a house by chance, at most so large.
func houseBy(d *dice, s size) api.ShiftHouse {
	h := api.ShiftHouse{Hours: d.from(1, s.hours)}
	for range d.from(1, s.rooms) {
		most := []int{5, 20, api.ShiftDust}[d.upTo(2)]
		h.Rooms = append(h.Rooms, room(d.span(0, most, s.wide), d.upTo(api.ShiftMake), d.upTo(api.ShiftHours), d.upTo(most)))
	}
	for range d.upTo(s.fans) {
		h.Fans = append(h.Fans, api.ShiftFan{Room: d.upTo(len(h.Rooms) - 1), Draws: d.upTo([]int{5, 20, api.ShiftDust}[d.upTo(2)])})
	}
	for range h.Hours {
		h.Open = append(h.Open, d.upTo(1<<len(h.Rooms)-1))
	}
	for range d.from(1, s.hands) {
		h.Hands = append(h.Hands, hand(d.upTo([]int{20, 80, 300}[d.upTo(2)]), d.upTo(api.ShiftHours)))
	}
	return h
}

// failuresOf returns all failures of a house, in order.
func failuresOf(h api.ShiftHouse) []api.ShiftFailure {
	all := []api.ShiftFailure{noFailure()}
	for n := range len(h.Fans) * h.Hours {
		all = append(all, fanFails(n/h.Hours, n%h.Hours))
	}
	for n := range len(h.Rooms) * h.Hours {
		all = append(all, machineFails(n/h.Hours, n%h.Hours))
	}
	return all
}

// truthsWith returns all truths of a house with a failure, by trying all numbers.
func truthsWith(h api.ShiftHouse, f api.ShiftFailure) []api.ShiftTruth {
	rows := [][]int{nil}
	for n := range len(h.Rooms) * h.Hours {
		s := h.Rooms[n/h.Hours].Dust
		var longer [][]int
		for _, l := range rows {
			for x := s.Low; x <= s.High; x++ {
				longer = append(longer, append(slices.Clone(l), x))
			}
		}
		rows = longer
	}
	var all []api.ShiftTruth
	for _, l := range rows {
		all = append(all, api.ShiftTruth{Dust: slices.Collect(slices.Chunk(l, h.Hours)), Failure: f})
	}
	return all
}

// truths returns all truths of a house.
func truths(h api.ShiftHouse) []api.ShiftTruth {
	var all []api.ShiftTruth
	for _, f := range failuresOf(h) {
		all = append(all, truthsWith(h, f)...)
	}
	return all
}

// truthBy returns a truth of a house by chance, often one with its ends.
func truthBy(d *dice, h api.ShiftHouse) api.ShiftTruth {
	all := failuresOf(h)
	t := api.ShiftTruth{Failure: all[d.upTo(len(all)-1)]}
	way := d.upTo(3)
	for _, r := range h.Rooms {
		var made []int
		for range h.Hours {
			made = append(made, []int{r.Dust.Low, r.Dust.High, d.from(r.Dust.Low, r.Dust.High), d.from(r.Dust.Low, r.Dust.High)}[way])
		}
		t.Dust = append(t.Dust, made)
	}
	return t
}

// isRunning reports whether the machine of a room runs in an hour.
func isRunning(h api.ShiftHouse, f api.ShiftFailure, room, hour int) bool {
	if f.What == api.ShiftMachine && f.Number == room && hour >= f.Hour && hour-f.Hour < h.Rooms[room].Wait {
		return false
	}
	return h.Open[hour]/(1<<room)%2 == 1
}

// dustIn returns the dust in each room, in each hour, in truth; it goes through the hours once for all rooms.
func dustIn(h api.ShiftHouse, t api.ShiftTruth) [][]int {
	dust := make([][]int, len(h.Rooms))
	now := make([]int, len(h.Rooms))
	for room, r := range h.Rooms {
		now[room] = r.Start
	}
	for hour := range h.Hours {
		for room := range h.Rooms {
			if isRunning(h, t.Failure, room, hour) {
				now[room] += t.Dust[room][hour]
			}
		}
		for fan, x := range h.Fans {
			if t.Failure.What != api.ShiftFanFails || t.Failure.Number != fan || hour < t.Failure.Hour {
				now[x.Room] -= x.Draws
			}
		}
		for room := range h.Rooms {
			now[room] = max(0, now[room])
			dust[room] = append(dust[room], now[room])
		}
	}
	return dust
}

// breathedIn returns what is breathed on a path where there is such dust.
func breathedIn(dust [][]int, path []int) int {
	total := 0
	for hour, room := range path {
		if room >= 0 {
			total += dust[room][hour]
		}
	}
	return total
}

// allPaths returns all paths of a house, in lexicographic order: a path is a number with a digit for each hour.
func allPaths(h api.ShiftHouse) [][]int {
	places := len(h.Rooms) + 1
	total := 1
	for range h.Hours {
		total *= places
	}
	var all [][]int
	for n := range total {
		path := make([]int, h.Hours)
		for hour := h.Hours - 1; hour >= 0; hour-- {
			path[hour] = n%places - 1
			n /= places
		}
		all = append(all, path)
	}
	return all
}

// pathBy returns a path of a house by chance.
func pathBy(d *dice, h api.ShiftHouse) []int {
	var path []int
	for range h.Hours {
		path = append(path, d.from(-1, len(h.Rooms)-1))
	}
	return path
}

// hoursIn returns for how many hours a path is in a room.
func hoursIn(path []int, room int) int {
	hours := 0
	for _, x := range path {
		if x == room {
			hours++
		}
	}
	return hours
}

// dutyOf returns the duty that a path does.
func dutyOf(h api.ShiftHouse, path []int) []int {
	var duty []int
	for room := range h.Rooms {
		duty = append(duty, hoursIn(path, room))
	}
	return duty
}

// known is what is breathed on paths, with each failure; it was found by trying truths.
type known struct {
	house    api.ShiftHouse
	failures []api.ShiftFailure
	dusts    [][][][]int
}

// tried returns what is breathed in a house, by trying all truths.
func tried(h api.ShiftHouse) known { return knownBy(h, truthsWith) }

// bounded returns what is breathed in a house that is too large to try all truths: all dust is least, or all is greatest.
func bounded(h api.ShiftHouse) known {
	return knownBy(h, func(h api.ShiftHouse, f api.ShiftFailure) []api.ShiftTruth {
		least, most := api.ShiftTruth{Failure: f}, api.ShiftTruth{Failure: f}
		for _, r := range h.Rooms {
			least.Dust = append(least.Dust, slices.Repeat([]int{r.Dust.Low}, h.Hours))
			most.Dust = append(most.Dust, slices.Repeat([]int{r.Dust.High}, h.Hours))
		}
		return []api.ShiftTruth{least, most}
	})
}

func knownBy(h api.ShiftHouse, with func(api.ShiftHouse, api.ShiftFailure) []api.ShiftTruth) known {
	k := known{house: h, failures: failuresOf(h)}
	for _, f := range k.failures {
		var dusts [][][]int
		for _, t := range with(h, f) {
			dusts = append(dusts, dustIn(h, t))
		}
		k.dusts = append(k.dusts, dusts)
	}
	return k
}

// ends returns the least and the greatest of what dust gives, over all truths.
func (k known) ends(give func(dust [][]int) int) api.Span {
	s := only(give(k.dusts[0][0]))
	for _, dusts := range k.dusts {
		for _, dust := range dusts {
			s = span(min(s.Low, give(dust)), max(s.High, give(dust)))
		}
	}
	return s
}

// breathes returns the least and the most that is breathed on a path.
func (k known) breathes(path []int) api.Span {
	return k.ends(func(dust [][]int) int { return breathedIn(dust, path) })
}

// isSure reports whether a hand may go on a path.
func (k known) isSure(hand int, path []int) bool {
	x := k.house.Hands[hand]
	return k.house.Hours-hoursIn(path, -1) <= x.Most && k.breathes(path).High <= x.Limit
}

// rosters returns all rosters of a house, in lexicographic order.
func rosters(h api.ShiftHouse) [][][]int {
	paths := allPaths(h)
	all := [][][]int{nil}
	for range h.Hands {
		var longer [][][]int
		for _, l := range all {
			for _, path := range paths {
				if more := append(slices.Clone(l), path); !isCrowded(h, more) {
					longer = append(longer, more)
				}
			}
		}
		all = longer
	}
	return slices.DeleteFunc(all, func(l [][]int) bool { return !isStaffed(h, l) })
}

// isCrowded reports whether two hands are in one room, or one is in a room that is not open.
func isCrowded(h api.ShiftHouse, paths [][]int) bool {
	for hour, open := range h.Open {
		for room := range h.Rooms {
			if handsIn(paths, room, hour) > open/(1<<room)%2 {
				return true
			}
		}
	}
	return false
}

// isStaffed reports whether each open room has just one hand, and no other room has one.
func isStaffed(h api.ShiftHouse, paths [][]int) bool {
	for hour, open := range h.Open {
		for room := range h.Rooms {
			if handsIn(paths, room, hour) != open/(1<<room)%2 {
				return false
			}
		}
	}
	return true
}

// handsIn returns how many hands are in a room in an hour.
func handsIn(paths [][]int, room, hour int) int {
	hands := 0
	for _, path := range paths {
		if path[hour] == room {
			hands++
		}
	}
	return hands
}

// rosterBy returns a roster of a house by chance; false if there are too few hands for its rooms.
func rosterBy(d *dice, h api.ShiftHouse) ([][]int, bool) {
	var roster [][]int
	for range h.Hands {
		roster = append(roster, slices.Repeat([]int{-1}, h.Hours))
	}
	for hour, open := range h.Open {
		var free []int
		for hand := range h.Hands {
			free = append(free, hand)
		}
		for room := range h.Rooms {
			if open/(1<<room)%2 == 0 {
				continue
			}
			if len(free) == 0 {
				return nil, false
			}
			i := d.upTo(len(free) - 1)
			roster[free[i]][hour] = room
			free = slices.Delete(free, i, i+1)
		}
	}
	return roster, true
}

// working returns how many hands of a roster are not at rest in all hours.
func working(roster [][]int) int {
	hands := 0
	for _, path := range roster {
		if hoursIn(path, -1) < len(path) {
			hands++
		}
	}
	return hands
}

// compareRosters compares rosters in lexicographic order, path by path.
func compareRosters(a, b [][]int) int { return slices.CompareFunc(a, b, slices.Compare[[]int]) }

// sameLists reports whether lists of lists are equal; nil and empty lists are.
func sameLists[T comparable](a, b [][]T) bool { return slices.EqualFunc(a, b, slices.Equal[[]T]) }

// sameHouse reports whether two houses are equal; nil and empty lists are.
func sameHouse(a, b api.ShiftHouse) bool {
	return a.Hours == b.Hours && slices.Equal(a.Rooms, b.Rooms) && slices.Equal(a.Fans, b.Fans) && slices.Equal(a.Open, b.Open) && slices.Equal(a.Hands, b.Hands)
}

// isIn reports whether a number lies in a span.
func isIn(n int, s api.Span) bool { return s.Low <= n && n <= s.High }

// sealed returns a text of lines, with the right CHECK.
func sealed(lines ...string) string {
	total := 0
	for _, line := range lines {
		for i, mark := range []byte(line) {
			total += int(mark) * (i + 1)
		}
	}
	rest := total % 107
	digits := string([]byte{byte('0' + rest/100), byte('0' + rest/10%10), byte('0' + rest%10)})
	return strings.Join(append(slices.Clone(lines), "end "+digits), "\n") + "\n"
}

// empty reports whether a result is a zero value, or an empty list.
func empty(x any) bool {
	v := reflect.ValueOf(x)
	switch v.Kind() {
	case reflect.Slice:
		return v.Len() == 0
	case reflect.Struct:
		for i := range v.NumField() {
			if !empty(v.Field(i).Interface()) {
				return false
			}
		}
		return true
	}
	return v.IsZero()
}

// wantError fails unless a call has an error, and zero values with it.
func wantError(t *testing.T, name string, got, want api.Errno, results ...any) {
	t.Helper()
	if got != want {
		t.Errorf("%s: error %d, want %d", name, got, want)
	}
	for _, x := range results {
		if want != api.OK && !empty(x) {
			t.Errorf("%s: %v with the error %d", name, x, got)
		}
	}
}
