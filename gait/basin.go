package gait

import (
	"amble/api"
	"amble/balance"
	"amble/exact"
	"amble/hull"
)

// behind returns what is added to m times a state, if the readings are of that
// state behind a push.
func (l readings) behind(push exact.Q) []exact.Q {
	v := make([]exact.Q, len(l.v))
	for i, row := range l.m {
		v[i] = l.v[i].Add(row[1].Mul(push))
	}
	return v
}

// back returns the step back: what gives, for a set, the states before a push
// from which the readings are in it, for both pushes. Both give the same left
// sides, so that of each two rows the lesser one is enough.
func (l readings) back(push exact.Q) func(hull.Poly) hull.Poly {
	return func(set hull.Poly) hull.Poly {
		from, _ := hull.Preimage(set, l.m, l.behind(push))
		other, _ := hull.Preimage(set, l.m, l.behind(push.Neg()))
		for i, r := range other.Rows {
			from.Rows[i].B = exact.Min(from.Rows[i].B, r.B)
		}
		return from
	}
}

// box returns the polyhedron of the lists of numbers of which each one is
// between those of two lists.
func box(low, high []exact.Q) hull.Poly {
	p := hull.Poly{N: len(low)}
	for i := range low {
		above, below := make([]exact.Q, p.N), make([]exact.Q, p.N)
		above[i], below[i] = exact.Int(-1), exact.Int(1)
		p.Rows = append(p.Rows, hull.Row{A: above, B: low[i].Neg()}, hull.Row{A: below, B: high[i]})
	}
	return p
}

// allowed returns the allowed states: those from which all that is bounded in a
// step is in its interval, for both pushes. They are bounded themselves, as the
// places before and after the swing and the pressure are.
func (s stepper) allowed() hull.Poly {
	swung, _ := s.swung()
	placed, _ := s.next()
	all := gather(reading{x: exact.Int(1)}, s.pressure(), s.length(), swung, placed)
	low := []exact.Q{s.Near, s.Heel, s.Short, s.Near, s.Near}
	high := []exact.Q{s.Far, s.Toe, s.Long, s.Far, s.Far}
	return all.back(s.Push)(box(low, high))
}

// Allowed returns the canonical description of the set of the allowed states.
func Allowed(p balance.Pendulum, l Law) (hull.Poly, api.Errno) {
	s, e := follow(p, l)
	if e != api.OK {
		return hull.Poly{}, e
	}
	return hull.Canon(s.allowed())
}

// meet returns the canonical description of what is in all of the sets; ErrLimit:
// it has too many rows; ErrVoid: that is nothing. (The allowed states have ten
// sides at most, and a round adds ten: the rows stay far below the limit.)
func meet(l ...hull.Poly) (hull.Poly, api.Errno) {
	all, e := hull.Meet(l...)
	if e != api.OK {
		return hull.Poly{}, e
	}
	set, e := hull.Canon(all)
	if e == api.OK && len(set.Rows) >= api.MaxRows {
		e = api.ErrLimit
	}
	if e == api.OK {
		_, e = hull.Least(set)
	}
	if e != api.OK {
		return hull.Poly{}, e
	}
	return set, api.OK
}

// shrink returns the set of what is left of the allowed states after so many
// rounds, and whether it did not change in the last one.
func (s stepper) shrink(rounds int) (set hull.Poly, closed bool, e api.Errno) {
	back := gather(s.next()).back(s.Push)
	set, e = meet(s.allowed())
	for range rounds {
		if e != api.OK || closed {
			break
		}
		before := set
		if set, e = meet(before, back(before)); e == api.OK {
			closed, e = hull.Same(before, set)
		}
	}
	return set, closed, e
}

// Basin returns the canonical description of what is left of the allowed states
// after so many rounds, in each of which those go from which the step of the law
// does not lead back, and whether it did not change in the last one.
func Basin(p balance.Pendulum, l Law, rounds int) (set hull.Poly, closed bool, e api.Errno) {
	s, e := follow(p, l)
	switch {
	case e != api.OK:
		return hull.Poly{}, false, e
	case rounds < 0 || rounds > api.MaxRounds:
		return hull.Poly{}, false, api.ErrRange
	}
	return s.shrink(rounds)
}

// isWithin reports whether all points of a set are in another one.
func isWithin(set, other hull.Poly) bool {
	within, e := hull.Within(set, other)
	return e == api.OK && within.Holds
}

// ProveBasin reports whether pendulum and set are valid, and the set is a basin.
// Parts of the allowed states are bounded.
func ProveBasin(p balance.Pendulum, l Law, set hull.Poly) bool {
	s, e := follow(p, l)
	if e != api.OK || hull.Check(set) != api.OK || set.N != 2 {
		return false
	}
	back := gather(s.next()).back(s.Push)
	_, e = hull.Least(set)
	return e == api.OK && isWithin(set, s.allowed()) && isWithin(set, back(set))
}
