package sense

import (
	"slices"

	"amble/api"
	"amble/exact"
	"amble/hull"
)

// check returns ErrArg if this is not a model with an enclosure of a state.
func (m Model) check(p hull.Poly) api.Errno {
	n := p.N
	isWrong := func(row []exact.Q) bool { return len(row) != n }
	switch {
	case hull.Check(p) != api.OK || hull.Check(m.Noise) != api.OK || n > maxState:
		return api.ErrArg
	case len(m.A) != n || slices.ContainsFunc(m.A, isWrong) || len(m.B) != n || m.Noise.N != n:
		return api.ErrArg
	}
	return api.OK
}

// predict returns where the states of an enclosure may be after a step.
func (m Model) predict(p hull.Poly) (hull.Poly, api.Errno) {
	moved, e := limited(hull.Image(p, m.A, m.B))
	if e != api.OK {
		return hull.Poly{}, e
	}
	return limited(hull.Sum(moved, m.Noise))
}

// Predict returns the canonical description of where the states of an enclosure
// may be after a step.
func Predict(p hull.Poly, m Model) (hull.Poly, api.Errno) {
	if e := m.check(p); e != api.OK {
		return hull.Poly{}, e
	}
	return m.predict(p)
}

// Update returns the canonical description of the convex hull of the points of
// an enclosure that agree with reports of which at most f are wrong.
func Update(p hull.Poly, l []hull.Poly, f int) (hull.Poly, api.Errno) {
	if e := checkFusion(l, f, p); e != api.OK {
		return hull.Poly{}, e
	}
	if isOpen(p) {
		return hull.Poly{}, api.ErrOpen
	}
	return fuse(l, f, p)
}

// Track returns the enclosures after all rounds: in each the states move, and
// then there may be reports.
func Track(p hull.Poly, m Model, rounds [][]hull.Poly, f int) ([]hull.Poly, api.Errno) {
	if e := m.check(p); e != api.OK {
		return nil, e
	}
	if len(rounds) > api.MaxTrack {
		return nil, api.ErrLimit
	}
	var enclosures []hull.Poly
	for _, reports := range rounds {
		var e api.Errno
		p, e = m.predict(p)
		if e == api.OK && len(reports) > 0 {
			p, e = Update(p, reports, f)
		}
		if e != api.OK {
			return nil, e
		}
		enclosures = append(enclosures, p)
	}
	return enclosures, api.OK
}
