package gait

import (
	"math/bits"
	"slices"

	"amble/api"
	"amble/exact"
)

// after returns the phase that comes after another one.
func (w Word) after(phase int) int { return (phase + 1) % len(w) }

// changed returns the set of the legs that the event behind a phase changes.
func (w Word) changed(phase int) uint8 { return w[phase] ^ w[w.after(phase)] }

func (w Word) isValid(legs int) bool {
	if len(w) < 2 || len(w) > api.MaxWord {
		return false
	}
	for i, standing := range w {
		if standing == 0 || standing>>legs != 0 || bits.OnesCount8(w.changed(i)) != 1 {
			return false
		}
	}
	return true
}

// CheckWord returns the error of a word.
func CheckWord(legs int, w Word) api.Errno {
	switch {
	case legs < 1 || legs > api.MaxLegs:
		return api.ErrRange
	case !w.isValid(legs):
		return api.ErrArg
	}
	return api.OK
}

// event returns the leg that the event behind a phase of a valid word places or
// lifts.
func (w Word) event(phase int) (leg int, isPlaced bool) {
	leg = bits.TrailingZeros8(w.changed(phase))
	return leg, !w.stands(leg, phase)
}

// stands reports whether a leg stands in a phase.
func (w Word) stands(leg, phase int) bool { return w[phase]>>leg&1 == 1 }

// Events returns the events behind the phases: the number of the leg plus 1 if
// it is placed, the negative of that if it is lifted.
func Events(legs int, w Word) ([]int, api.Errno) {
	if e := CheckWord(legs, w); e != api.OK {
		return nil, e
	}
	events := make([]int, len(w))
	for i := range w {
		leg, isPlaced := w.event(i)
		events[i] = leg + 1
		if !isPlaced {
			events[i] = -events[i]
		}
	}
	return events, api.OK
}

// Duty returns in which part of the phases a leg stands.
func Duty(legs int, w Word, leg int) (exact.Q, api.Errno) {
	if e := CheckWord(legs, w); e != api.OK {
		return exact.Q{}, e
	}
	if leg < 0 || leg >= legs {
		return exact.Q{}, api.ErrRange
	}
	standing := 0
	for i := range w {
		if w.stands(leg, i) {
			standing++
		}
	}
	return exact.Of(int64(standing), int64(len(w)))
}

// Normal returns the least rotation of a word.
func Normal(legs int, w Word) (Word, api.Errno) {
	if e := CheckWord(legs, w); e != api.OK {
		return nil, e
	}
	least := slices.Clone(w)
	for i := range w {
		if turned := slices.Concat(w[i:], w[:i]); slices.Compare(turned, least) < 0 {
			least = turned
		}
	}
	return least, api.OK
}
