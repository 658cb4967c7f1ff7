package hull

import (
	"slices"

	"amble/api"
	"amble/exact"
)

// isPointed reports whether only 0 is a direction in which no row of a system
// changes.
func (s system) isPointed() bool {
	lefts := make(exact.Mat, len(s.rows))
	n := len(s.free)
	for i, row := range s.rows {
		lefts[i] = row[:n:n].list()
	}
	_, pivots, _ := exact.Rref(lefts)
	return len(pivots) == n
}

// Corners returns the corners of p, increasing, and its extreme rays, as
// primitive vectors, increasing: the extreme rays of the cone of which p is
// the part where the last number is 1.
func Corners(p Poly) (points, rays [][]exact.Q, e api.Errno) {
	if e := Check(p); e != api.OK {
		return nil, nil, e
	}
	s, ok := systemOf(p)
	if !ok {
		return nil, nil, api.OK
	}
	if !s.isPointed() {
		return nil, nil, api.ErrOpen
	}
	n := len(s.free)
	rows, _ := needful(s.rows, s.inner, len(s.rows))
	found, ok := extremes(n+1, append(rows, unitVec(n+1, n).negated()), api.MaxCorners)
	if !ok {
		return nil, nil, api.ErrLimit
	}
	for _, v := range found {
		l := s.complete(v)
		if scale := l[p.N]; scale.Sign() == 0 {
			rays = append(rays, primitive(l[:p.N:p.N]))
		} else {
			points = append(points, divided(l[:p.N:p.N], scale))
		}
	}
	slices.SortFunc(points, compare)
	slices.SortFunc(rays, compare)
	return points, rays, api.OK
}

// checkHull returns the error of the arguments of Hull.
func checkHull(n int, points, rays [][]exact.Q) api.Errno {
	if n < 0 || n > api.MaxDim {
		return api.ErrRange
	}
	if len(points) > api.MaxCorners || len(points)+len(rays) > api.MaxCorners {
		return api.ErrLimit
	}
	wrong := func(l []exact.Q) bool { return len(l) != n }
	if slices.ContainsFunc(points, wrong) || slices.ContainsFunc(rays, wrong) {
		return api.ErrArg
	}
	return api.OK
}

// Hull returns the canonical description of what points and rays generate. The
// rows A and -B that are true for all of it are a cone; its lines are the
// equations, and its extreme rays the facets.
func Hull(n int, points, rays [][]exact.Q) (Poly, api.Errno) {
	if e := checkHull(n, points, rays); e != api.OK {
		return Poly{}, e
	}
	if len(points) == 0 {
		return voidPoly(n), api.OK
	}
	generators := generatorsOf(points, rays)
	_, equations, _ := exact.Solve(generators, make([]exact.Q, len(generators)))
	s := reducedSystem(n, equations)
	var ok bool
	if s.rows, ok = s.facetsOf(generators); !ok {
		return Poly{}, api.ErrLimit
	}
	return limited(s.describe())
}

// generatorsOf returns points, with 1 behind them, and rays, with 0 behind
// them; both sorted.
func generatorsOf(points, rays [][]exact.Q) exact.Mat {
	var all exact.Mat
	add := func(lists [][]exact.Q, last exact.Q) {
		from := len(all)
		for _, l := range lists {
			n := len(l)
			all = append(all, append(l[:n:n], last))
		}
		slices.SortFunc(all[from:], compare)
	}
	add(points, exact.Int(1))
	add(rays, exact.Q{})
	return all
}

// facetsOf returns the tidy rows that, together with the equations of a
// system, describe what the generators generate; false: they are too many.
// Beside them the cone may have the ray that says that 0 is at most 1.
func (s system) facetsOf(generators exact.Mat) ([]vec, bool) {
	var rows []vec
	for _, g := range generators {
		if v, _ := vecOf(s.gather(g)); !v.isZero() {
			rows = append(rows, v)
		}
	}
	rows = slices.CompactFunc(rows, vec.equal)
	found, ok := extremes(len(s.free)+1, rows, api.MaxRows+1)
	return tidy(slices.DeleteFunc(found, vec.isEmpty)), ok
}

// polygon returns the corners of a bounded polyhedron of the dimension 2,
// increasing.
func polygon(p Poly) ([][]exact.Q, api.Errno) {
	if e := Check(p); e != api.OK || p.N != 2 {
		return nil, api.ErrArg
	}
	points, rays, e := Corners(p)
	switch {
	case e != api.OK:
		return nil, e
	case len(rays) > 0:
		return nil, api.ErrOpen
	case len(points) == 0:
		return nil, api.ErrVoid
	}
	return points, api.OK
}

// Ring returns the corners of a bounded polyhedron of the dimension 2
// counterclockwise, beginning with the least one. Seen from there, all others
// lie in a half plane.
func Ring(p Poly) ([]exact.Point, api.Errno) {
	points, e := polygon(p)
	if e != api.OK {
		return nil, e
	}
	ring := make([]exact.Point, len(points))
	for i, x := range points {
		ring[i] = exact.Point{X: x[0], Z: x[1]}
	}
	slices.SortFunc(ring[1:], func(a, b exact.Point) int {
		return -a.Sub(ring[0]).Cross(b.Sub(ring[0])).Sign()
	})
	return ring, api.OK
}

// Area returns the area of a bounded polyhedron of the dimension 2.
func Area(p Poly) (exact.Q, api.Errno) {
	ring, e := Ring(p)
	if e != api.OK {
		return exact.Q{}, e
	}
	var double exact.Q
	for i := range ring {
		double = double.Add(ring[i].Cross(ring[(i+1)%len(ring)]))
	}
	return over(double, exact.Int(2)), api.OK
}
