package pose

import (
	"amble/api"
	"amble/exact"
	"amble/machine"
)

// over returns a / b; b is not 0.
func over(a, b exact.Q) exact.Q {
	quotient, _ := a.Div(b)
	return quotient
}

// shares returns what part of the machine's mass each body has.
func (p placed) shares() []exact.Q {
	weight, _ := machine.Weight(p.Machine)
	shares := make([]exact.Q, len(p.Bodies))
	for i, b := range p.Bodies {
		shares[i] = over(b.Mass, weight)
	}
	return shares
}

// Centre returns the centre of mass.
func Centre(m machine.Machine, p Pose) (exact.Point, api.Errno) {
	q, e := place(m, p)
	if e != api.OK {
		return exact.Point{}, e
	}
	var centre exact.Point
	for i, share := range q.shares() {
		centre = centre.Add(q.world(i, q.Bodies[i].Centre).Scale(share))
	}
	return centre, api.OK
}

// jacobian returns how the velocity of a point of a body follows from those of
// the machine: each hinge above it turns it about its own place.
func (p placed) jacobian(body int, at exact.Point) exact.Mat {
	size := len(p.Bodies) + 2
	x, z := make([]exact.Q, size), make([]exact.Q, size)
	x[0], z[1] = exact.Int(1), exact.Int(1)
	point := p.world(body, at)
	for i := range p.upward(body) {
		arm := point.Sub(p.frame(i).At)
		x[2+i], z[2+i] = arm.Z.Neg(), arm.X
	}
	return exact.Mat{x, z}
}

// Jacobian returns that of a point of a body.
func Jacobian(m machine.Machine, p Pose, body int, at exact.Point) (exact.Mat, api.Errno) {
	q, e := placeBody(m, p, body)
	if e != api.OK {
		return nil, e
	}
	return q.jacobian(body, at), api.OK
}

// addTimes adds k times the matrix b to a, which has as many rows and columns.
func addTimes(a exact.Mat, k exact.Q, b exact.Mat) {
	for i, row := range b {
		for j, number := range row {
			a[i][j] = a[i][j].Add(number.Mul(k))
		}
	}
}

// CentreJacobian returns that of the centre of mass.
func CentreJacobian(m machine.Machine, p Pose) (exact.Mat, api.Errno) {
	q, e := place(m, p)
	if e != api.OK {
		return nil, e
	}
	size := len(q.Bodies) + 2
	mean := exact.Mat{make([]exact.Q, size), make([]exact.Q, size)}
	for i, share := range q.shares() {
		addTimes(mean, share, q.jacobian(i, q.Bodies[i].Centre))
	}
	return mean, api.OK
}
