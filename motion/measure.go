package motion

import (
	"amble/api"
	"amble/exact"
)

// Energy returns that of the motion, and that of heights and springs.
func Energy(w World, s State) (kinetic, potential exact.Q, e api.Errno) {
	now, e := enter(w, s)
	if e != api.OK {
		return exact.Q{}, exact.Q{}, e
	}
	for i, mass := range now.masses() {
		speed := s.Speed[i]
		kinetic = kinetic.Add(half(mass.Mul(speed).Mul(speed)))
	}
	for i, b := range now.Machine.Bodies {
		potential = potential.Add(b.Mass.Mul(now.Gravity).Mul(s.At[i].Z))
	}
	for _, spring := range now.Machine.Springs {
		span := now.join(spring.A, spring.From, spring.B, spring.To).span()
		potential = potential.Add(half(spring.Stiff.Mul(square(span))))
	}
	return kinetic, potential, api.OK
}

// Momentum returns the linear momentum, and the angular one about the origin of
// the world.
func Momentum(w World, s State) (exact.Point, exact.Q, api.Errno) {
	now, e := enter(w, s)
	if e != api.OK {
		return exact.Point{}, exact.Q{}, e
	}
	var linear exact.Point
	var angular exact.Q
	for i, b := range now.Machine.Bodies {
		velocity, turning := now.velocity(i)
		momentum := velocity.Scale(b.Mass)
		linear = linear.Add(momentum)
		angular = exact.Sum(angular, s.At[i].Cross(momentum), b.Inertia.Mul(turning))
	}
	return linear, angular, api.OK
}

// Drift returns how far each body has come away from its parent at their hinge.
func Drift(w World, s State) ([]exact.Point, api.Errno) {
	now, e := enter(w, s)
	if e != api.OK {
		return nil, e
	}
	var drifts []exact.Point
	for body := 1; body < len(now.Machine.Bodies); body++ {
		anchors := now.anchors(body)
		drifts = append(drifts, anchors.from.Sub(anchors.to))
	}
	return drifts, api.OK
}

// numbers returns all numbers of a state.
func (s State) numbers() []exact.Q {
	var l []exact.Q
	for _, p := range s.At {
		l = append(l, p.X, p.Z)
	}
	for _, r := range s.Rot {
		l = append(l, r.C, r.S)
	}
	l = append(l, s.Speed...)
	return append(l, s.Heat...)
}

// greatest returns the greatest absolute value of the numbers.
func greatest(l ...exact.Q) exact.Q {
	return exact.Max(exact.Max(l...), exact.Min(l...).Neg())
}

// Off returns the greatest difference of two states.
func Off(w World, s, t State) (exact.Q, api.Errno) {
	if _, e := enter(w, s); e != api.OK {
		return exact.Q{}, e
	}
	if !w.fits(t) {
		return exact.Q{}, api.ErrArg
	}
	differences := s.numbers()
	for i, q := range t.numbers() {
		differences[i] = differences[i].Sub(q)
	}
	return greatest(differences...), api.OK
}
