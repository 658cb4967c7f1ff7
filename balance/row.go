package balance

import (
	"iter"
	"slices"

	"amble/api"
	"amble/exact"
	"amble/hull"
)

// over returns a / b; b is not 0.
func over(a, b exact.Q) exact.Q {
	quotient, _ := a.Div(b)
	return quotient
}

// areRising reports whether no number is greater than the next one.
func areRising(l ...exact.Q) bool { return slices.IsSortedFunc(l, exact.Q.Cmp) }

// list returns a new list with these numbers.
func list(l ...exact.Q) []exact.Q { return slices.Clone(l) }

// row returns the row that says that a·x is at most b.
func row(b exact.Q, a ...exact.Q) hull.Row { return hull.Row{A: list(a...), B: b} }

// opposite returns the row that says that a·x is at least b, of one that says
// that it is at most b.
func opposite(r hull.Row) hull.Row {
	turned := row(r.B.Neg(), r.A...)
	for i := range turned.A {
		turned.A[i] = turned.A[i].Neg()
	}
	return turned
}

// equation yields the two rows that say that a·x is b.
func equation(b exact.Q, a ...exact.Q) iter.Seq[hull.Row] {
	return func(yield func(hull.Row) bool) {
		if r := row(b, a...); yield(r) {
			yield(opposite(r))
		}
	}
}

// interval yields the two rows that say that a·x is from low to high.
func interval(low, high exact.Q, a ...exact.Q) iter.Seq[hull.Row] {
	return func(yield func(hull.Row) bool) {
		if yield(opposite(row(low, a...))) {
			yield(row(high, a...))
		}
	}
}

// collect returns the polyhedron with the rows of all parts, one after another.
func collect(n int, parts ...iter.Seq[hull.Row]) hull.Poly {
	p := hull.Poly{N: n}
	for _, part := range parts {
		for r := range part {
			p.Rows = append(p.Rows, r)
		}
	}
	return p
}

// refute returns weights that show that a polyhedron is void; ErrNone: it is
// not.
func refute(p hull.Poly) ([]exact.Q, api.Errno) {
	answer, _ := hull.Maximize(make([]exact.Q, p.N), p)
	if answer.Kind != hull.Void {
		return nil, api.ErrNone
	}
	return answer.Weights, api.OK
}
