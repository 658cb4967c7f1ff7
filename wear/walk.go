package wear

import (
	"iter"

	"amble/api"
	"amble/exact"
)

// wearer is a device at work: the phase it is in, the moment it gives, and for
// each guard from that phase, by its place, how many samples in a row its box
// has held.
type wearer struct {
	Device
	phase  uint8
	moment exact.Q
	counts map[int]int
}

// count takes a sample into the counts, and returns the place of the guard that
// fires, if there is one.
func (w *wearer) count(s Sample) (place int, fires bool) {
	for i, g := range w.Guards {
		if g.From != w.phase {
			continue
		}
		if !isIn(s, g.Box) {
			delete(w.counts, i)
			continue
		}
		w.counts[i]++
		if !fires && w.counts[i] >= g.Hold {
			place, fires = i, true
		}
	}
	return place, fires
}

// act takes the next sample: a cycle begins.
func (w *wearer) act(s Sample) {
	if place, fires := w.count(s); fires {
		w.phase = w.Guards[place].To
		clear(w.counts)
	}
	limit := w.Limits[w.phase]
	wanted := momentAt(w.Curves[w.phase], s.Angle)
	wanted = between(w.moment.Sub(limit.Rate), wanted, w.moment.Add(limit.Rate))
	w.moment = between(limit.Moment.Neg(), wanted, limit.Moment)
	if w.phase == Stop && w.moment.Sign()*s.Speed.Sign() > 0 {
		w.moment = exact.Q{}
	}
}

// cycles goes through the cycles with these samples: their indexes, and what the
// device does.
func cycles(d Device, l []Sample) iter.Seq2[int, Action] {
	return func(yield func(int, Action) bool) {
		w := wearer{Device: d, phase: Rest, counts: map[int]int{}}
		for i, s := range l {
			w.act(s)
			if !yield(i, Action{w.phase, w.moment}) {
				return
			}
		}
	}
}

// checkWalk returns the first error of a device and samples.
func checkWalk(d Device, l []Sample) api.Errno {
	e := Check(d)
	if e == api.OK && len(l) > api.MaxWorn {
		e = api.ErrLimit
	}
	return e
}

// Phases returns the phase of each cycle.
func Phases(d Device, l []Sample) ([]uint8, api.Errno) {
	if e := checkWalk(d, l); e != api.OK {
		return nil, e
	}
	var found []uint8
	for _, a := range cycles(d, l) {
		found = append(found, a.Phase)
	}
	return found, api.OK
}

// Act returns phase and moment of each cycle.
func Act(d Device, l []Sample) ([]Action, api.Errno) {
	if e := checkWalk(d, l); e != api.OK {
		return nil, e
	}
	var done []Action
	for _, a := range cycles(d, l) {
		done = append(done, a)
	}
	return done, api.OK
}

// ledger returns a function that adds to the sum of a phase, and returns the
// sums of all phases.
func ledger() func(phase uint8, q exact.Q) []exact.Q {
	sums := make([]exact.Q, phases)
	return func(phase uint8, q exact.Q) []exact.Q {
		sums[phase] = sums[phase].Add(q)
		return sums
	}
}

// Work returns the work that the device does in each phase.
func Work(d Device, l []Sample) ([]exact.Q, api.Errno) {
	if e := checkWalk(d, l); e != api.OK {
		return nil, e
	}
	add := ledger()
	sums := add(Rest, exact.Q{})
	for i, a := range cycles(d, l) {
		sums = add(a.Phase, a.Moment.Mul(l[i].Speed))
	}
	for i := range sums {
		sums[i] = sums[i].Mul(d.Step)
	}
	return sums, api.OK
}
