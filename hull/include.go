package hull

import (
	"amble/api"
	"amble/exact"
)

// Within says whether all points of p are points of q, and why.
func Within(p, q Poly) (Inclusion, api.Errno) {
	if e := checkAll(p, q); e != api.OK {
		return Inclusion{}, e
	}
	g := newProgram(p.N, p.Rows)
	var weights [][]exact.Q
	for _, r := range q.Rows {
		a := g.answer(r.A)
		if x, broken := breaking(a, r); broken {
			return Inclusion{Point: x}, api.OK
		}
		weights = append(weights, a.Weights)
	}
	return Inclusion{Holds: true, Weights: weights}, api.OK
}

// breaking returns a point for which the row is not true, from an answer to
// maximising its left side; false: it is always true.
func breaking(a Answer, r Row) ([]exact.Q, bool) {
	switch {
	case a.Kind == Void || a.Kind == Optimal && a.Value.Cmp(r.B) <= 0:
		return nil, false
	case a.Kind == Optimal || !r.allows(a.Point):
		return a.Point, true
	}
	missing := r.B.Sub(dot(r.A, a.Point)).Add(exact.Int(1))
	addTimes(a.Point, over(missing, dot(r.A, a.Ray)), a.Ray)
	return a.Point, true
}

// ProveWithin reports whether the inclusion is right.
func ProveWithin(p, q Poly, i Inclusion) bool {
	if checkAll(p, q) != api.OK {
		return false
	}
	if !i.Holds {
		return len(i.Weights) == 0 && Has(p, i.Point) && !Has(q, i.Point)
	}
	if len(i.Point) != 0 || len(i.Weights) != len(q.Rows) {
		return false
	}
	for k, r := range q.Rows {
		if !showVoid(p, i.Weights[k]) && !showRow(p, r, i.Weights[k]) {
			return false
		}
	}
	return true
}

// showRow reports whether l are weights that show that the row is true for all
// points of p.
func showRow(p Poly, r Row, l []exact.Q) bool {
	if !areWeights(l, len(p.Rows)) {
		return false
	}
	sum := combination(p.N, p.Rows, l)
	return compare(sum.A, r.A) == 0 && sum.B.Cmp(r.B) <= 0
}

// Separate returns a row that is true for all points of p and for none of q:
// that part of a proof that they have no common point that comes from p.
func Separate(p, q Poly) (Row, api.Errno) {
	if e := checkAll(p, q); e != api.OK {
		return Row{}, e
	}
	n := len(p.Rows)
	g := newProgram(p.N, append(p.Rows[:n:n], q.Rows...))
	if !g.isVoid {
		return Row{}, api.ErrNone
	}
	return combination(p.N, p.Rows, g.voidWeights()[:n:n]), api.OK
}
