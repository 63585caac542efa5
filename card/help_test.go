package card_test

import (
	"math/big"
	"reflect"
	"slices"
	"strings"
	"testing"

	"nacre/api"
)

const far = 1<<63 - 1

// dice gives numbers that look random, and are the same each time.
type dice uint64

func (d *dice) upTo(n int) int {
	*d = *d*6364136223846793005 + 1442695040888963407
	return int(uint64(*d)>>33) % (n + 1)
}

func (d *dice) from(low, high int) int { return low + d.upTo(high-low) }

func span(low, high int) api.Span { return api.Span{Low: low, High: high} }

func only(n int) api.Span { return span(n, n) }

// roundR returns the round r of the chapter.
func roundR() api.CardRound {
	return api.CardRound{
		Per: 12, Button: span(2, 3), Card: 5, Slack: 4, All: 100,
		Houses: []api.CardHouse{
			{Out: 60, Cards: 5, Full: 4, Loose: 7, Miss: 1, Weighed: 185},
			{Out: 50, Cards: 4, Full: 3, Loose: 9, Miss: 1, Weighed: 150},
		},
	}
}

// changed returns the round r with some change.
func changed(change func(r *api.CardRound)) api.CardRound {
	r := roundR()
	change(&r)
	return r
}

// roundQ returns the round q of the chapter.
func roundQ() api.CardRound {
	return changed(func(r *api.CardRound) { r.Houses[0].Weighed, r.All = 149, 91 })
}

// bareRound returns a round with as little of everything as there can be.
func bareRound() api.CardRound {
	return api.CardRound{Per: 2, Button: only(1), Houses: make([]api.CardHouse, 1)}
}

// fullRound returns a round with as much of everything as there can be.
func fullRound() api.CardRound {
	h := api.CardHouse{Out: 3000, Cards: 60, Full: 60, Loose: 36, Miss: 3, Weighed: 200000}
	return api.CardRound{Per: 36, Button: span(46, 50), Card: 100, Slack: 500, Houses: slices.Repeat([]api.CardHouse{h}, 4), All: 12000, Off: 100}
}

// badRounds returns rounds that are not as defined.
func badRounds() map[string]api.CardRound {
	bad := map[string]api.CardRound{"nothing": {}}
	for name, change := range map[string]func(r *api.CardRound){
		"a Per of 1":         func(r *api.CardRound) { r.Per = 1 },
		"a Per of 37":        func(r *api.CardRound) { r.Per = 37 },
		"a Per below 0":      func(r *api.CardRound) { r.Per = -far },
		"buttons from 0":     func(r *api.CardRound) { r.Button = span(0, 1) },
		"buttons to 51":      func(r *api.CardRound) { r.Button = span(49, 51) },
		"buttons turned":     func(r *api.CardRound) { r.Button = span(3, 2) },
		"buttons too wide":   func(r *api.CardRound) { r.Button = span(1, 6) },
		"buttons of all":     func(r *api.CardRound) { r.Button = span(-far-1, far) },
		"buttons of the top": func(r *api.CardRound) { r.Button = span(far-1, far) },
		"buttons turned far": func(r *api.CardRound) { r.Button = span(far, -far-1) },
		"a Card of -1":       func(r *api.CardRound) { r.Card = -1 },
		"a Card of 101":      func(r *api.CardRound) { r.Card = 101 },
		"a Slack of -1":      func(r *api.CardRound) { r.Slack = -1 },
		"a Slack of 501":     func(r *api.CardRound) { r.Slack = 501 },
		"no houses":          func(r *api.CardRound) { r.Houses = nil },
		"5 houses":           func(r *api.CardRound) { r.Houses = slices.Repeat(r.Houses[:1], 5) },
		"many houses":        func(r *api.CardRound) { r.Houses = slices.Repeat(r.Houses, 100000) },
		"an All of -1":       func(r *api.CardRound) { r.All = -1 },
		"an All of 12001":    func(r *api.CardRound) { r.All = 12001 },
		"an Off of -1":       func(r *api.CardRound) { r.Off = -1 },
		"an Off of 101":      func(r *api.CardRound) { r.Off = 101 },
		"an Out of -1":       func(r *api.CardRound) { r.Houses[0].Out = -1 },
		"an Out of 3001":     func(r *api.CardRound) { r.Houses[1].Out = 3001 },
		"Cards of -1":        func(r *api.CardRound) { r.Houses[1].Cards = -1 },
		"Cards of 61":        func(r *api.CardRound) { r.Houses[0].Cards = 61 },
		"Cards far above":    func(r *api.CardRound) { r.Houses[0].Cards = far },
		"a Full of -1":       func(r *api.CardRound) { r.Houses[0].Full = -1 },
		"a Full of 61":       func(r *api.CardRound) { r.Houses[1].Full = 61 },
		"a Loose of -1":      func(r *api.CardRound) { r.Houses[1].Loose = -1 },
		"a Loose of 37":      func(r *api.CardRound) { r.Houses[0].Loose = 37 },
		"a Miss of -1":       func(r *api.CardRound) { r.Houses[0].Miss = -1 },
		"a Miss of 4":        func(r *api.CardRound) { r.Houses[1].Miss = 4 },
		"a Weighed of -1":    func(r *api.CardRound) { r.Houses[1].Weighed = -1 },
		"a Weighed too far":  func(r *api.CardRound) { r.Houses[0].Weighed = 200001 },
	} {
		bad[name] = changed(change)
	}
	return bad
}

// size is how large a round by chance can be.
type size struct {
	houses, per, cards, slack, off int
}

// large is the size of any round; small is that of rounds of which all truths can be tried.
func large() size {
	return size{api.CardHouses, api.CardPer, api.CardCards, api.CardSlack, api.CardOff}
}

func small() size { return size{3, 4, 3, 25, 3} }

// mostly returns a number by chance up to n, often a small one, or 0.
func (d *dice) mostly(n int) int { return d.upTo(n / []int{1, 10, n + 1}[d.upTo(2)]) }

// near returns a number by chance from 0 to most that is at most so far from n.
func (d *dice) near(n, off, most int) int { return min(most, max(0, d.from(n-off, n+off))) }

// roundBy returns a round by chance, and a truth of it if all houses can count.
func roundBy(d *dice, s size) (api.CardRound, api.CardTruth) {
	low := d.from(1, []int{5, api.CardStone}[d.upTo(1)])
	r := api.CardRound{Per: d.from(2, s.per), Button: span(low, d.from(low, min(low+api.CardVary, api.CardStone))), Card: d.mostly(api.CardBoard), Slack: d.mostly(s.slack), Off: d.mostly(s.off)}
	x := api.CardTruth{Button: d.from(r.Button.Low, r.Button.High)}
	all := 0
	for range d.from(1, s.houses) {
		full, loose, miss := d.mostly(s.cards), d.upTo(r.Per-1), d.upTo(api.CardMiss)
		buttons := full*r.Per + loose
		r.Houses = append(r.Houses, api.CardHouse{
			Out: d.from(buttons, []int{min(buttons+3, api.CardOut), api.CardOut}[d.upTo(1)]), Cards: d.from(full, s.cards), Miss: miss,
			Full: d.near(full, miss, api.CardCards), Loose: d.near(loose, miss, api.CardPer),
			Weighed: d.near(buttons*x.Button+full*r.Card, r.Slack, api.CardHeavy),
		})
		x.Full, x.Loose = append(x.Full, full), append(x.Loose, loose)
		all += buttons
	}
	r.All = d.near(all, r.Off, api.CardAll)
	return r, x
}

// miscount lets a house of a round count by chance.
func miscount(d *dice, r api.CardRound, house int) {
	h := &r.Houses[house]
	h.Full, h.Loose = d.near(h.Full, 8, api.CardCards), d.upTo(api.CardPer)
}

// nobody is the house that is doubted if none is.
const nobody = -1

// buttonsOf returns the buttons of a house in truth.
func buttonsOf(r api.CardRound, x api.CardTruth, house int) int {
	return x.Full[house]*r.Per + x.Loose[house]
}

// isPart reports whether cards and buttons of a house are right, if a button weighs so much.
func isPart(r api.CardRound, house, doubted, button, full, loose int) bool {
	h := r.Houses[house]
	if full < 0 || full > h.Cards || loose < 0 || loose >= r.Per {
		return false
	}
	buttons := full*r.Per + loose
	weight := buttons*button + full*r.Card
	if buttons > h.Out || weight > h.Weighed+r.Slack || weight < h.Weighed-r.Slack {
		return false
	}
	near := func(n, counted int) bool { return n <= counted+h.Miss && n >= counted-h.Miss }
	return house == doubted || near(full, h.Full) && near(loose, h.Loose)
}

// isTruth reports whether something is a truth, but that a house is doubted.
func isTruth(r api.CardRound, x api.CardTruth, doubted int) bool {
	if x.Button < r.Button.Low || x.Button > r.Button.High {
		return false
	}
	all := 0
	for house := range r.Houses {
		if !isPart(r, house, doubted, x.Button, x.Full[house], x.Loose[house]) {
			return false
		}
		all += buttonsOf(r, x, house)
	}
	return all <= r.All+r.Off && all >= r.All-r.Off
}

// truths returns all truths of a round, by trying all numbers, but that a house is doubted.
func truths(r api.CardRound, doubted int) []api.CardTruth {
	var all []api.CardTruth
	for button := r.Button.Low; button <= r.Button.High; button++ {
		some := []api.CardTruth{{Button: button}}
		for _, h := range r.Houses {
			var more []api.CardTruth
			for _, x := range some {
				for full := range h.Cards + 1 {
					for loose := range r.Per {
						more = append(more, api.CardTruth{Button: button, Full: append(slices.Clone(x.Full), full), Loose: append(slices.Clone(x.Loose), loose)})
					}
				}
			}
			some = more
		}
		for _, x := range some {
			if isTruth(r, x, doubted) {
				all = append(all, x)
			}
		}
	}
	return all
}

// ends is the least and the greatest of what was found, if anything was.
type ends struct {
	any bool
	api.Span
}

func (s *ends) add(n int) {
	if !s.any {
		s.any, s.Span = true, only(n)
	}
	s.Span = span(min(s.Low, n), max(s.High, n))
}

// told is what is known of a round, over all truths but that a house is doubted.
type told struct {
	houses         []ends
	total, weights ends
}

// agrees reports whether there is a truth.
func (k told) agrees() bool { return k.total.any }

// known returns between which bounds the buttons of each house lie.
func (k told) known() []api.Span {
	var all []api.Span
	for _, s := range k.houses {
		all = append(all, s.Span)
	}
	return all
}

// tried returns what is known of a round, by trying all truths.
func tried(r api.CardRound, doubted int) told {
	k := told{houses: make([]ends, len(r.Houses))}
	for _, x := range truths(r, doubted) {
		all := 0
		for house := range r.Houses {
			k.houses[house].add(buttonsOf(r, x, house))
			all += buttonsOf(r, x, house)
		}
		k.total.add(all)
		k.weights.add(x.Button)
	}
	return k
}

// summed returns what is known of a round that is too large to try all truths: sums are the bits of a number.
func summed(r api.CardRound, doubted int) told {
	k := told{houses: make([]ends, len(r.Houses))}
	window := big.NewInt(1)
	window.Lsh(window, uint(2*r.Off+1)).Sub(window, big.NewInt(1)).Lsh(window, uint(r.All)).Rsh(window, uint(r.Off))
	for button := r.Button.Low; button <= r.Button.High; button++ {
		own := make([][]int, len(r.Houses))
		for house, h := range r.Houses {
			for n := range (h.Cards + 1) * r.Per {
				if isPart(r, house, doubted, button, n/r.Per, n%r.Per) {
					own[house] = append(own[house], n)
				}
			}
		}
		for house, list := range own {
			others := big.NewInt(1)
			for other, amounts := range own {
				if other != house {
					others = shifted(others, amounts)
				}
			}
			for _, n := range list {
				sums := shifted(others, []int{n})
				if sums.And(sums, window).Sign() > 0 {
					k.houses[house].add(n)
					k.total.add(int(sums.TrailingZeroBits()))
					k.total.add(sums.BitLen() - 1)
					k.weights.add(button)
				}
			}
		}
	}
	return k
}

// shifted returns the sums to which one of some amounts was added.
func shifted(sums *big.Int, amounts []int) *big.Int {
	all := new(big.Int)
	for _, n := range amounts {
		all.Or(all, new(big.Int).Lsh(sums, uint(n)))
	}
	return all
}

// roadsC returns the roads c of the chapter.
func roadsC() api.CardRoads {
	return api.CardRoads{Loads: []int{4, 3, 5}, Bears: 8, Far: [][]int{{0, 2, 9, 5}, {2, 0, 3, 9}, {9, 3, 0, 4}, {5, 9, 4, 0}}}
}

// sealed returns a text of lines, with the right CHECK.
func sealed(lines ...string) string {
	total := 0
	for n, line := range lines {
		for i, mark := range []byte(line) {
			total += int(mark) * (i + 1) * (n + 1)
		}
	}
	rest := total % 139
	digits := string([]byte{byte('0' + rest/100), byte('0' + rest/10%10), byte('0' + rest%10)})
	return strings.Join(append(slices.Clone(lines), "end "+digits), "\n") + "\n"
}

// sameRound reports whether two rounds are equal; nil and empty lists are.
func sameRound(a, b api.CardRound) bool {
	return a.Per == b.Per && a.Button == b.Button && a.Card == b.Card && a.Slack == b.Slack && slices.Equal(a.Houses, b.Houses) && a.All == b.All && a.Off == b.Off
}

// empty reports whether a result is a zero value, or an empty list.
func empty(x any) bool {
	v := reflect.ValueOf(x)
	switch v.Kind() {
	case reflect.Slice:
		return v.Len() == 0
	case reflect.Struct:
		for i := range v.NumField() {
			if !empty(v.Field(i).Interface()) {
				return false
			}
		}
		return true
	}
	return v.IsZero()
}

// wantError fails unless a call has an error, and zero values with it.
func wantError(t *testing.T, name string, got, want api.Errno, results ...any) {
	t.Helper()
	if got != want {
		t.Errorf("%s: error %d, want %d", name, got, want)
	}
	for _, x := range results {
		if want != api.OK && !empty(x) {
			t.Errorf("%s: %v with the error %d", name, x, got)
		}
	}
}
