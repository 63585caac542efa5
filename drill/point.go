package drill

import (
	"iter"
	"slices"

	"nacre/api"
)

const (
	plainTurns = 4
	turns      = 2 * plainTurns
)

// turn is a way in which a button can lie.
type turn interface {
	quarters() int
}

// plain is a turn by so many quarters.
type plain int

// mirrored is a turn by so many quarters, after X was changed to -X.
type mirrored int

// box is between which ends X and Y of some points lie.
type box [2]api.Span

// Check returns the error of a measure.
func Check(c api.DrillMeasure) api.Errno {
	if !arePoints(c.Holes, 2, api.DrillReach) || !within(c.Off, 0, api.DrillOff) {
		return api.ErrArg
	}
	for i, p := range c.Holes {
		if slices.Contains(c.Holes[:i], p) {
			return api.ErrArg
		}
	}
	return api.OK
}

// Turn returns points that are turned.
func Turn(l []api.DrillPoint, turn int) ([]api.DrillPoint, api.Errno) {
	if !arePoints(l, 0, api.DrillFar) || !within(turn, 0, turns-1) {
		return nil, api.ErrArg
	}
	t := turnOf(turn)
	var found []api.DrillPoint
	for _, p := range l {
		found = append(found, turned(p, t))
	}
	return found, api.OK
}

// Match returns the first turn and order with which points are of a measure.
func Match(c api.DrillMeasure, l []api.DrillPoint) (int, []int, api.Errno) {
	if Check(c) != api.OK || len(l) != len(c.Holes) || !arePoints(l, 0, api.DrillFar) {
		return 0, nil, api.ErrArg
	}
	turn, order, ok := match(c.Holes, c.Off, l)
	if !ok {
		return 0, nil, api.ErrNone
	}
	return turn, order, api.OK
}

// arePoints reports whether points are neither too few nor too many, and lie as far as that from 0.
func arePoints(l []api.DrillPoint, least, reach int) bool {
	return within(len(l), least, api.DrillHoles) && !slices.ContainsFunc(l, func(p api.DrillPoint) bool {
		return !isPoint(p, reach)
	})
}

// isPoint reports whether a point lies at most as far as that from 0, in X and in Y.
func isPoint(p api.DrillPoint, reach int) bool {
	return within(p.X, -reach, reach) && within(p.Y, -reach, reach)
}

// turnOf returns the turn with a number.
func turnOf(number int) turn {
	if number < plainTurns {
		return plain(number)
	}
	return mirrored(number - plainTurns)
}

func (t plain) quarters() int { return int(t) }

func (t mirrored) quarters() int { return int(t) }

// turned returns a point that is turned.
func turned(p api.DrillPoint, t turn) api.DrillPoint {
	switch t.(type) {
	case mirrored:
		p.X = -p.X
	}
	for range t.quarters() {
		p = api.DrillPoint{X: -p.Y, Y: p.X}
	}
	return p
}

// match returns the first turn and order with which points differ from as many holes by at most as much as that.
func match(holes []api.DrillPoint, by int, points []api.DrillPoint) (number int, order []int, ok bool) {
search:
	for i := range turns {
		t := turnOf(i)
		fits := func(hole, point int) bool { return near(holes[hole], turned(points[point], t), by) }
		for o := range orders(len(holes), fits) {
			number, order, ok = i, slices.Clone(o), true
			break search
		}
	}
	return number, order, ok
}

// near reports whether two points differ by at most as much as that, in X and in Y.
func near(p, q api.DrillPoint, by int) bool {
	return lies(q.X, around(p.X, by)) && lies(q.Y, around(p.Y, by))
}

// orders goes through the orders of some points, in lexicographic order, that have at each place a number that fits there.
// The order is the same memory each time.
func orders(many int, fits func(place, number int) bool) iter.Seq[[]int] {
	return func(yield func([]int) bool) {
		var order []int
		var extend func() bool
		extend = func() bool {
			place := len(order)
			if place == many {
				return yield(order)
			}
			for number := range many {
				if slices.Contains(order, number) || !fits(place, number) {
					continue
				}
				order = append(order, number)
				more := extend()
				order = order[:place]
				if !more {
					return false
				}
			}
			return true
		}
		extend()
	}
}

// moved returns points that are all moved by the same.
func moved(l []api.DrillPoint, by api.DrillPoint) []api.DrillPoint {
	var found []api.DrillPoint
	for _, p := range l {
		found = append(found, api.DrillPoint{X: p.X + by.X, Y: p.Y + by.Y})
	}
	return found
}

// points goes through the points of a box, in lexicographic order.
func (b box) points() iter.Seq[api.DrillPoint] {
	return func(yield func(api.DrillPoint) bool) {
		for x := b[0].Low; x <= b[0].High; x++ {
			for y := b[1].Low; y <= b[1].High; y++ {
				if !yield(api.DrillPoint{X: x, Y: y}) {
					return
				}
			}
		}
	}
}

// with returns the least box that has a box and another one in it.
func (b box) with(other box) box {
	for i, s := range other {
		b[i] = api.Span{Low: min(b[i].Low, s.Low), High: max(b[i].High, s.High)}
	}
	return b
}

// nearest returns the point of a box that differs least from a point.
func (b box) nearest(p api.DrillPoint) api.DrillPoint {
	return api.DrillPoint{X: clamp(p.X, b[0]), Y: clamp(p.Y, b[1])}
}

// clamp returns the number of a span that differs least from a number.
func clamp(n int, s api.Span) int { return min(max(n, s.Low), s.High) }
