package hull

import (
	"slices"

	"amble/exact"
	"amble/whole"
)

// system is a polyhedron that is not void, without needless unknowns. Its
// equations are a reduced form, each of them the numbers A and then -B of
// A·x = B. The columns at their pivots have no others than theirs. Its rows
// are about the unknowns at the free columns alone; they hold strictly at the
// inner point.
type system struct {
	size      int
	equations exact.Mat
	pivots    []int
	free      []int
	rows      []vec
	inner     vec
}

// newSystem returns the system of the points of size numbers for which the
// equations hold and no row is above 0; false: there is none. (All equations
// of the arguments can hold together.)
func newSystem(size int, equations exact.Mat, rows []vec) (system, bool) {
	for {
		s := reducedSystem(size, equations)
		var ok bool
		if s.rows, ok = s.rewrite(rows); !ok {
			return system{}, false
		}
		flat, inner, ok := s.flatRows()
		if !ok {
			return system{}, false
		}
		if len(flat) == 0 {
			s.inner = inner
			return s, true
		}
		equations = s.equations
		for _, row := range flat {
			equations = append(equations, s.spread(row))
		}
	}
}

// reducedSystem returns the system of equations, without rows.
func reducedSystem(size int, equations exact.Mat) system {
	form, pivots, _ := exact.Rref(equations)
	s := system{size: size, equations: form[:len(pivots):len(pivots)], pivots: pivots}
	for i := range size {
		if _, pivot := slices.BinarySearch(pivots, i); !pivot {
			s.free = append(s.free, i)
		}
	}
	return s
}

// rewrite returns rows that say the same about the points of the equations,
// in the free unknowns; false: one of them is true for no such point. Rows
// that are always true are left out.
func (s system) rewrite(rows []vec) ([]vec, bool) {
	var left []vec
	for _, row := range rows {
		l := row.list()
		for i, pivot := range s.pivots {
			addTimes(l, l[pivot].Neg(), s.equations[i])
		}
		v, _ := vecOf(s.gather(l))
		if !v.isEmpty() {
			left = append(left, v)
		} else if v[len(s.free)].Sign() > 0 {
			return nil, false
		}
	}
	return left, true
}

// gather returns the numbers at the free columns, and the last one.
func (s system) gather(l []exact.Q) []exact.Q {
	part := make([]exact.Q, 0, len(s.free)+1)
	for _, column := range s.free {
		part = append(part, l[column])
	}
	return append(part, l[s.size])
}

// spread puts the numbers of a vector about the free unknowns at their
// columns, and 0 at the pivots.
func (s system) spread(v vec) []exact.Q {
	l := make([]exact.Q, s.size+1)
	for i, column := range s.free {
		l[column] = v[i].Q()
	}
	l[s.size] = v[len(s.free)].Q()
	return l
}

// complete returns the vector of a point or direction of which the numbers at
// the free columns are given: those at the pivots follow from the equations.
func (s system) complete(v vec) []exact.Q {
	l := s.spread(v)
	for i, pivot := range s.pivots {
		l[pivot] = dot(s.equations[i], l).Neg()
	}
	return l
}

// flatRows returns rows that are 0 at all points, at least one if there are
// such, and otherwise a point where no row is 0; false: there are no points.
// It looks for the greatest number, at most 1, by which all rows can be below
// 0. If this is 0, the rows that keep it from rising are flat.
func (s system) flatRows() (flat []vec, inner vec, ok bool) {
	n := len(s.free)
	one := whole.Of(1)
	rows := make([]vec, 0, len(s.rows)+1)
	for _, row := range s.rows {
		rows = append(rows, row.with(n, one))
	}
	rows = append(rows, unitVec(n+1, n).with(n+1, one.Neg()))
	t := newTableau(n+1, rows)
	t.settle()
	room := func(along vec) whole.Int { return along[n] }
	t.rise(room)
	switch t.vertex[n].Sign() {
	case 1:
		return nil, t.vertex.without(n), true
	case -1:
		return nil, nil, false
	}
	for _, e := range t.edges {
		if room(e.vec).Sign() != 0 {
			flat = append(flat, s.rows[e.row])
		}
	}
	return flat, nil, true
}
