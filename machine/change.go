package machine

import (
	"slices"

	"amble/api"
	"amble/exact"
)

// points returns pointers to all points of m.
func (m *Machine) points() []*exact.Point {
	var all []*exact.Point
	add := func(l []exact.Point) {
		for i := range l {
			all = append(all, &l[i])
		}
	}
	for i := range m.Bodies {
		all = append(all, &m.Bodies[i].At, &m.Bodies[i].Centre)
		add(m.Bodies[i].Shape)
	}
	for i := range m.Springs {
		all = append(all, &m.Springs[i].From, &m.Springs[i].To)
	}
	for i := range m.Tendons {
		all = append(all, &m.Tendons[i].From, &m.Tendons[i].To)
	}
	for i := range m.Feet {
		add(m.Feet[i].Points)
	}
	return all
}

// Mirror returns the machine with all X negated. The corners of a shape change
// their order because their sides have the body on the other hand.
func Mirror(m Machine) (Machine, api.Errno) {
	if e := Check(m); e != api.OK {
		return Machine{}, e
	}
	m = m.clone()
	for _, p := range m.points() {
		p.X = p.X.Neg()
	}
	for i := range m.Bodies {
		b := &m.Bodies[i]
		b.Low, b.High = b.High.Neg(), b.Low.Neg()
		if len(b.Shape) > 0 {
			slices.Reverse(b.Shape[1:])
		}
	}
	return m, api.OK
}

// Scale returns the machine enlarged by k.
func Scale(m Machine, k exact.Q) (Machine, api.Errno) {
	if e := Check(m); e != api.OK {
		return Machine{}, e
	}
	if k.Sign() <= 0 {
		return Machine{}, api.ErrRange
	}
	m = m.clone()
	for _, p := range m.points() {
		*p = p.Scale(k)
	}
	cube := square(k).Mul(k)
	for i := range m.Bodies {
		b := &m.Bodies[i]
		b.Mass = b.Mass.Mul(cube)
		b.Inertia = b.Inertia.Mul(cube).Mul(square(k))
	}
	for i := range m.Tendons {
		m.Tendons[i].Length = m.Tendons[i].Length.Mul(k)
	}
	for i := range m.Motors {
		m.Motors[i].Torque = m.Motors[i].Torque.Mul(k)
	}
	return m, api.OK
}
