package drum

import "nacre/api"

// Run returns how rough and how thick each batch is after some hours, in truth.
func Run(d api.DrumDrum, t api.DrumTruth, hours int) ([]api.DrumState, api.Errno) {
	fits, e := Fits(d, t)
	if e != api.OK || !fits || !within(hours, 0, d.Hours) {
		return nil, api.ErrArg
	}
	var states []api.DrumState
	for _, b := range d.Batches {
		states = append(states, after(b, t.Strength[:hours]))
	}
	return states, api.OK
}

// Known returns between which bounds each batch is rough and thick after some hours.
func Known(d api.DrumDrum, hours int) ([]api.DrumBounds, api.Errno) {
	c, e := examine(d, within(hours, 0, d.Hours))
	if e != api.OK {
		return nil, e
	}
	var all []api.DrumBounds
	for _, b := range d.Batches {
		all = append(all, c.bounds(b, hours))
	}
	return all, api.OK
}

// Smooth returns the smooth hour of a batch.
func Smooth(d api.DrumDrum, batch int) (int, api.Errno) {
	w, e := windowOf(d, batch)
	if e == api.OK && w.Low > d.Hours {
		e = api.ErrNone
	}
	if e != api.OK {
		return 0, e
	}
	return w.Low, api.OK
}

// Thin returns the thin hour of a batch.
func Thin(d api.DrumDrum, batch int) (int, api.Errno) {
	w, e := windowOf(d, batch)
	if e == api.OK && w.High < 0 {
		e = api.ErrNone
	}
	if e != api.OK {
		return 0, e
	}
	return w.High, api.OK
}

// windowOf returns from which hour on a batch of a drum is smooth, and up to which one it is thick enough, as window says.
func windowOf(d api.DrumDrum, batch int) (api.Span, api.Errno) {
	c, e := examine(d, within(batch, 0, len(d.Batches)-1))
	if e != api.OK {
		return api.Span{}, e
	}
	return c.window(d.Batches[batch]), api.OK
}

// window returns from which hour on a batch surely is smooth, and up to which one it surely is thick enough.
// It is from one hour more than there are if there is no smooth hour, and up to -1 if there is no thin one.
func (c choice) window(b api.DrumBatch) api.Span {
	hours := c[0].Hours
	w := api.Span{Low: hours + 1, High: -1}
	for hour := range hours + 1 {
		known := c.bounds(b, hour)
		if known.Rough.High <= b.Goal {
			w.Low = min(w.Low, hour)
		}
		if known.Thick.Low >= b.Least {
			w.High = hour
		}
	}
	return w
}

// bounds returns between which bounds a batch is rough and thick after some hours.
func (c choice) bounds(b api.DrumBatch, hours int) api.DrumBounds {
	// a batch is never below 0, nor more than it was: these ends give way to any state
	all := api.DrumBounds{Rough: api.Span{Low: b.Rough}, Thick: api.Span{Low: b.Thick}}
	for _, f := range c {
		for _, end := range f.ends() {
			s := after(b, end()[:hours])
			all.Rough, all.Thick = reaching(all.Rough, s.Rough), reaching(all.Thick, s.Thick)
		}
	}
	return all
}

// after returns how rough and how thick a batch is after hours with acid of such strengths.
func after(b api.DrumBatch, strengths []int) api.DrumState {
	return api.DrumState{
		Rough: max(0, b.Rough-sum(b.Polish, strengths...)),
		Thick: max(0, b.Thick-sum(b.Eat, strengths...)),
	}
}

// sum returns the sum of what is lost at some rate in hours with acid of such strengths.
func sum(rate int, strengths ...int) int {
	total := 0
	for _, n := range strengths {
		total += n * rate / 100
	}
	return total
}
