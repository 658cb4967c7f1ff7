package hull

import (
	"amble/api"
	"amble/exact"
)

// Check returns ErrArg if the polyhedron is not valid.
func Check(p Poly) api.Errno {
	if p.N < 0 || p.N > api.MaxDim || len(p.Rows) > api.MaxRows {
		return api.ErrArg
	}
	for _, r := range p.Rows {
		if len(r.A) != p.N {
			return api.ErrArg
		}
	}
	return api.OK
}

// checkWith returns ErrArg if p is not valid, or c has not as many numbers as
// its points.
func checkWith(c []exact.Q, p Poly) api.Errno {
	if e := Check(p); e != api.OK || len(c) != p.N {
		return api.ErrArg
	}
	return api.OK
}

// checkAll returns ErrArg if one of the polyhedra is not valid, or they have
// different dimensions.
func checkAll(l ...Poly) api.Errno {
	for _, p := range l {
		if e := Check(p); e != api.OK || p.N != l[0].N {
			return api.ErrArg
		}
	}
	return api.OK
}

// allows reports whether the row is true for x.
func (r Row) allows(x []exact.Q) bool { return dot(r.A, x).Cmp(r.B) <= 0 }

// Has reports whether x is a point of the polyhedron.
func Has(p Poly, x []exact.Q) bool {
	if checkWith(x, p) != api.OK {
		return false
	}
	for _, r := range p.Rows {
		if !r.allows(x) {
			return false
		}
	}
	return true
}

// combination returns the row that is the sum of the rows times their weights.
func combination(n int, rows []Row, weights []exact.Q) Row {
	sum := Row{A: make([]exact.Q, n)}
	for i, r := range rows {
		addTimes(sum.A, weights[i], r.A)
		sum.B = sum.B.Add(weights[i].Mul(r.B))
	}
	return sum
}

// Meet returns the polyhedron with the rows of all, one after another.
func Meet(l ...Poly) (Poly, api.Errno) {
	if len(l) == 0 || checkAll(l...) != api.OK {
		return Poly{}, api.ErrArg
	}
	meet := Poly{N: l[0].N}
	for _, p := range l {
		if len(meet.Rows)+len(p.Rows) > api.MaxRows {
			return Poly{}, api.ErrLimit
		}
		for _, r := range p.Rows {
			meet.Rows = append(meet.Rows, Row{clone(r.A), r.B})
		}
	}
	return meet, api.OK
}
