package hull

import (
	"slices"

	"amble/api"
	"amble/exact"
)

// vecsOf returns the vectors of rows.
func vecsOf(rows []Row) []vec {
	vecs := make([]vec, len(rows))
	for i, r := range rows {
		vecs[i], _ = vecOfRow(r)
	}
	return vecs
}

// systemOf returns the system of a polyhedron; false: it is void.
func systemOf(p Poly) (system, bool) { return newSystem(p.N, nil, vecsOf(p.Rows)) }

// facet returns the row of numbers A and then -B, with a primitive A.
func facet(l []exact.Q) Row {
	n := len(l) - 1
	divisor := common(l[:n:n])
	r := Row{A: make([]exact.Q, n), B: over(l[n].Neg(), divisor)}
	for i := range r.A {
		r.A[i] = over(l[i], divisor)
	}
	return r
}

// negated returns the opposite of a row that is an equation.
func (r Row) negated() Row { return Row{negated(r.A), r.B.Neg()} }

// tidy returns the vectors of rows sorted by A. Of those that say something
// about the same direction only the strictest one is left.
func tidy(rows []vec) []vec {
	facets := make([]Row, len(rows))
	for i, row := range rows {
		facets[i] = facet(row.list())
	}
	slices.SortFunc(facets, func(r, s Row) int {
		if order := compare(r.A, s.A); order != 0 {
			return order
		}
		return r.B.Cmp(s.B)
	})
	facets = slices.CompactFunc(facets, func(r, s Row) bool { return compare(r.A, s.A) == 0 })
	return vecsOf(facets)
}

// voidPoly returns the canonical description of a void polyhedron.
func voidPoly(n int) Poly {
	return Poly{n, []Row{{make([]exact.Q, n), exact.Int(-1)}}}
}

// describe returns the canonical description of a system whose rows are tidy
// and needful.
func (s system) describe() Poly {
	p := Poly{N: s.size}
	for _, l := range s.equations {
		r := facet(l)
		p.Rows = append(p.Rows, r, r.negated())
	}
	for _, row := range s.rows {
		p.Rows = append(p.Rows, facet(s.spread(row)))
	}
	return p
}

// canon returns the canonical description of p, however many rows it has.
func canon(p Poly) Poly {
	s, ok := systemOf(p)
	if !ok {
		return voidPoly(p.N)
	}
	s.rows, _ = needful(s.rows, s.inner, len(s.rows))
	return s.describe()
}

// limited returns ErrLimit in place of a canonical description with too many
// rows.
func limited(p Poly) (Poly, api.Errno) {
	if len(p.Rows) > api.MaxRows {
		return Poly{}, api.ErrLimit
	}
	return p, api.OK
}

// Canon returns the canonical description of p.
func Canon(p Poly) (Poly, api.Errno) {
	if e := Check(p); e != api.OK {
		return Poly{}, e
	}
	return limited(canon(p))
}

// Same reports whether p and q have the same points.
func Same(p, q Poly) (bool, api.Errno) {
	if e := checkAll(p, q); e != api.OK {
		return false, e
	}
	equal := func(r, s Row) bool { return compare(r.A, s.A) == 0 && r.B.Cmp(s.B) == 0 }
	return slices.EqualFunc(canon(p).Rows, canon(q).Rows, equal), api.OK
}

// Dim returns the dimension of p less the number of its equations, -1 if it is
// void.
func Dim(p Poly) (int, api.Errno) {
	if e := Check(p); e != api.OK {
		return 0, e
	}
	s, ok := systemOf(p)
	if !ok {
		return -1, api.OK
	}
	return len(s.free), api.OK
}
