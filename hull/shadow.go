package hull

import (
	"amble/api"
	"amble/exact"
)

// shadow returns the canonical description of the points that are left of
// those of a system if their first numbers, so many of them, are cut off.
func shadow(size, hidden int, equations exact.Mat, rows []vec) (Poly, api.Errno) {
	s, ok := newSystem(size, equations, rows)
	if !ok {
		return voidPoly(size - hidden), api.OK
	}
	flat, ok := s.cut(hidden, api.MaxRows)
	if !ok {
		return Poly{}, api.ErrLimit
	}
	return limited(flat.describe())
}

// cut returns the system of what is left if the first numbers of all points,
// so many, are cut off, with rows that are tidy and needful; false: they are
// more than the limit.
func (s system) cut(hidden, limit int) (system, bool) {
	left := system{size: s.size - hidden}
	// An equation with a pivot among the first numbers says which one it is,
	// and nothing about the others.
	for i, pivot := range s.pivots {
		if pivot >= hidden {
			left.pivots = append(left.pivots, pivot-hidden)
			left.equations = append(left.equations, s.equations[i][hidden:])
		}
	}
	first := 0
	for _, column := range s.free {
		if column >= hidden {
			left.free = append(left.free, column-hidden)
		} else {
			first++
		}
	}
	var ok bool
	left.rows, ok = shape{s.rows, s.inner, first}.project(limit)
	return left, ok
}

// Project returns the canonical description of the points that consist of the
// coordinates keep of the points of p.
func Project(p Poly, keep []int) (Poly, api.Errno) {
	if e := Check(p); e != api.OK {
		return Poly{}, e
	}
	var kept [api.MaxDim]bool
	for _, i := range keep {
		if i < 0 || i >= p.N || kept[i] {
			return Poly{}, api.ErrRange
		}
		kept[i] = true
	}
	var order []int
	for i := range p.N {
		if !kept[i] {
			order = append(order, i)
		}
	}
	hidden := len(order)
	order = append(order, keep...)
	rows := vecsOf(p.Rows)
	for i, row := range rows {
		rows[i] = row.permuted(append(order[:p.N:p.N], p.N))
	}
	return shadow(p.N, hidden, nil, rows)
}

// permuted returns the numbers of v with these indexes.
func (v vec) permuted(order []int) vec {
	w := make(vec, len(order))
	for i, from := range order {
		w[i] = v[from]
	}
	return w
}

// isMap reports whether m is a valid matrix with n columns.
func isMap(m exact.Mat, n int) bool {
	for _, row := range m {
		if len(row) != n {
			return false
		}
	}
	return true
}

// Image returns the canonical description of the points m x + v, for the
// points x of p.
func Image(p Poly, m exact.Mat, v []exact.Q) (Poly, api.Errno) {
	switch e := Check(p); {
	case e != api.OK || !isMap(m, p.N):
		return Poly{}, api.ErrArg
	case len(m) > api.MaxDim:
		return Poly{}, api.ErrRange
	case len(v) != len(m):
		return Poly{}, api.ErrArg
	}
	n := len(m)
	equations := make(exact.Mat, n)
	for i, row := range m {
		equations[i] = append(row[:p.N:p.N], make([]exact.Q, n+1)...)
		equations[i][p.N+i] = exact.Int(-1)
		equations[i][p.N+n] = v[i]
	}
	rows := vecsOf(p.Rows)
	for i, row := range rows {
		rows[i] = row.widened(p.N, n)
	}
	return shadow(p.N+n, p.N, equations, rows)
}

// widened returns a new vector with n zeros more, at the place i.
func (v vec) widened(i, n int) vec {
	return append(append(v[:i:i], make(vec, n)...), v[i:]...)
}

// Preimage returns the polyhedron of the points x for which m x + v is a point
// of p, with a row for each row of p.
func Preimage(p Poly, m exact.Mat, v []exact.Q) (Poly, api.Errno) {
	columns := 0
	if len(m) > 0 {
		columns = len(m[0])
	}
	switch e := Check(p); {
	case e != api.OK || len(m) != p.N || !isMap(m, columns):
		return Poly{}, api.ErrArg
	case columns > api.MaxDim:
		return Poly{}, api.ErrRange
	case len(v) != p.N:
		return Poly{}, api.ErrArg
	}
	image := Poly{N: columns}
	for _, r := range p.Rows {
		s := Row{make([]exact.Q, columns), r.B.Sub(dot(r.A, v))}
		for i, a := range r.A {
			addTimes(s.A, a, m[i])
		}
		image.Rows = append(image.Rows, s)
	}
	return image, api.OK
}

// Sum returns the canonical description of all sums of a point of p and one of
// q: of what is left of the pairs of a point of p and a sum.
func Sum(p, q Poly) (Poly, api.Errno) {
	if e := checkAll(p, q); e != api.OK {
		return Poly{}, e
	}
	n := p.N
	var rows []vec
	for _, row := range vecsOf(p.Rows) {
		rows = append(rows, row.widened(n, n))
	}
	for _, row := range vecsOf(q.Rows) {
		rows = append(rows, append(row[:n:n].negated(), row...))
	}
	return shadow(2*n, n, nil, rows)
}
