package balance

import (
	"iter"
	"slices"

	"amble/api"
	"amble/exact"
	"amble/hull"
)

func (c Contact) isValid() bool {
	hasGround := c.Ground.X.Sign() != 0 || c.Ground.Z.Sign() != 0
	return hasGround && c.Friction.Sign() >= 0 && c.Most.Sign() >= 0
}

// Check returns the first error of contacts and a weight.
func Check(l []Contact, weight exact.Q) api.Errno {
	if len(l) > api.MaxContacts {
		return api.ErrLimit
	}
	isWrong := func(c Contact) bool { return !c.isValid() }
	if slices.ContainsFunc(l, isWrong) || weight.Sign() <= 0 {
		return api.ErrArg
	}
	return api.OK
}

// axes returns the forces for n 1 and t 0, and for n 0 and t 1.
func (c Contact) axes() (normal, tangent exact.Point) {
	return exact.Point{X: c.Ground.Z.Neg(), Z: c.Ground.X}, c.Ground
}

// Force returns the force of a contact for its two numbers.
func Force(c Contact, n, t exact.Q) exact.Point {
	normal, tangent := c.axes()
	return normal.Scale(n).Add(tangent.Scale(t))
}

// limits yields the rows that say which numbers n and t the contact can have.
func (c Contact) limits() iter.Seq[hull.Row] {
	return func(yield func(hull.Row) bool) {
		none, one, rub := exact.Q{}, exact.Int(1), c.Friction.Neg()
		rows := []hull.Row{row(none, one.Neg(), none), row(none, rub, one), row(none, rub, one.Neg())}
		if c.Most.Sign() != 0 {
			normal, tangent := c.axes()
			rows = append(rows, row(c.Most, normal.Z, tangent.Z))
		}
		for _, r := range rows {
			if !yield(r) {
				return
			}
		}
	}
}

// stance is a list of contacts that shall hold a weight; they are valid.
type stance struct {
	contacts []Contact
	weight   exact.Q
}

// stand returns the stance, or the error of Check.
func stand(l []Contact, weight exact.Q) (stance, api.Errno) {
	if e := Check(l, weight); e != api.OK {
		return stance{}, e
	}
	return stance{l, weight}, api.OK
}

// size returns how many numbers the forces of all contacts have.
func (s stance) size() int { return 2 * len(s.contacts) }

// limits yields the rows of all contacts, each with a number for each unknown.
func (s stance) limits() iter.Seq[hull.Row] {
	return func(yield func(hull.Row) bool) {
		for i, c := range s.contacts {
			for r := range c.limits() {
				wide := row(r.B, make([]exact.Q, s.size())...)
				copy(wide.A[2*i:], r.A)
				if !yield(wide) {
					return
				}
			}
		}
	}
}

// sum returns the row of the sum, over all contacts, of what is measured of
// their forces.
func (s stance) sum(measure func(at, force exact.Point) exact.Q) []exact.Q {
	var sum []exact.Q
	for _, c := range s.contacts {
		normal, tangent := c.axes()
		sum = append(sum, measure(c.At, normal), measure(c.At, tangent))
	}
	return sum
}

func forward(_, force exact.Point) exact.Q { return force.X }

func upward(_, force exact.Point) exact.Q { return force.Z }

// moment is what the forces turn a machine with about the origin.
func (s stance) moment() []exact.Q { return s.sum(exact.Point.Cross) }

// holding returns the polyhedron of the forces that carry the weight and for
// which more rows are true.
func (s stance) holding(more ...iter.Seq[hull.Row]) hull.Poly {
	parts := []iter.Seq[hull.Row]{
		s.limits(),
		equation(exact.Q{}, s.sum(forward)...),
		equation(s.weight, s.sum(upward)...),
	}
	return collect(s.size(), append(parts, more...)...)
}

// system returns that of a centre of mass at x.
func (s stance) system(x exact.Q) hull.Poly {
	return s.holding(equation(s.weight.Mul(x), s.moment()...))
}

// System returns the system of contacts, a weight and the X of the centre of
// mass.
func System(l []Contact, weight, x exact.Q) (hull.Poly, api.Errno) {
	s, e := stand(l, weight)
	if e != api.OK {
		return hull.Poly{}, e
	}
	return s.system(x), api.OK
}
