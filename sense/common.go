package sense

import (
	"slices"

	"amble/api"
	"amble/exact"
	"amble/hull"
)

// limited returns ErrLimit in place of a canonical description to which no row
// could be added.
func limited(p hull.Poly, e api.Errno) (hull.Poly, api.Errno) {
	if e == api.OK && len(p.Rows) >= api.MaxRows {
		e = api.ErrLimit
	}
	if e != api.OK {
		return hull.Poly{}, e
	}
	return p, api.OK
}

// common returns the canonical description of what polyhedra of one dimension,
// at least one, have in common. Their rows may be more than those of a single
// one: whenever there is no room for another row, the needless ones are left
// out.
func common(l ...hull.Poly) (hull.Poly, api.Errno) {
	meet := hull.Poly{N: l[0].N}
	for _, p := range l {
		for _, r := range p.Rows {
			if len(meet.Rows) == api.MaxRows {
				var e api.Errno
				if meet, e = limited(hull.Canon(meet)); e != api.OK {
					return hull.Poly{}, e
				}
			}
			meet.Rows = append(meet.Rows, r)
		}
	}
	return limited(hull.Canon(meet))
}

// refute returns weights for the rows of polyhedra of the dimension n that show
// that they have no common point; false: they have one. (Their rows are not
// more than those of a single one may be.)
func refute(n int, l ...hull.Poly) ([]exact.Q, bool) {
	all := hull.Poly{N: n}
	for _, p := range l {
		all.Rows = append(all.Rows, p.Rows...)
	}
	answer, _ := hull.Maximize(make([]exact.Q, n), all)
	return answer.Weights, answer.Kind == hull.Void
}

// isVoid reports whether a valid polyhedron has no point.
func isVoid(p hull.Poly) bool {
	dim, _ := hull.Dim(p)
	return dim < 0
}

// unit returns the point of n numbers that has 1 at the place i.
func unit(n, i int) []exact.Q {
	l := make([]exact.Q, n)
	l[i] = exact.Int(1)
	return l
}

// isOpen reports whether a valid polyhedron is neither void nor bounded.
func isOpen(p hull.Poly) bool {
	for i := range p.N {
		_, _, below, above, e := hull.Bounds(unit(p.N, i), p)
		if e == api.OK && !(below && above) {
			return true
		}
	}
	return false
}

// solid is a bounded polyhedron with its corners, increasing.
type solid struct {
	hull.Poly
	corners [][]exact.Q
}

// compare compares two points number by number.
func compare(a, b []exact.Q) int { return slices.CompareFunc(a, b, exact.Q.Cmp) }

// covers reports whether a point is strictly between two others of the solid:
// then it is no corner of anything convex that contains the solid.
func (s solid) covers(x []exact.Q) bool {
	_, isCorner := slices.BinarySearchFunc(s.corners, x, compare)
	return !isCorner && hull.Has(s.Poly, x)
}

// tips returns those corners of bounded polyhedra that none of them covers, each
// once; false: they are too many.
func tips(l []hull.Poly) ([][]exact.Q, bool) {
	var solids []solid
	for _, p := range l {
		corners, _, e := hull.Corners(p)
		if e != api.OK {
			return nil, false
		}
		solids = append(solids, solid{p, corners})
	}
	var all [][]exact.Q
	for _, s := range solids {
		for _, x := range s.corners {
			covers := func(other solid) bool { return other.covers(x) }
			if !slices.ContainsFunc(solids, covers) {
				all = append(all, x)
			}
		}
	}
	isSame := func(a, b []exact.Q) bool { return compare(a, b) == 0 }
	slices.SortFunc(all, compare)
	all = slices.CompactFunc(all, isSame)
	return all, len(all) <= api.MaxCorners
}

// raised returns the cone of the points of a bounded polyhedron with 1 behind
// them: of their multiples.
func raised(p hull.Poly) hull.Poly {
	cone := hull.Poly{N: p.N + 1}
	for _, r := range p.Rows {
		cone.Rows = append(cone.Rows, hull.Row{A: slices.Concat(r.A, []exact.Q{r.B.Neg()})})
	}
	down := unit(p.N+1, p.N)
	down[p.N] = down[p.N].Neg()
	cone.Rows = append(cone.Rows, hull.Row{A: down})
	return cone
}

// lowered returns the points that have 1 behind them in a cone.
func lowered(cone hull.Poly) (hull.Poly, api.Errno) {
	n := cone.N - 1
	var m exact.Mat
	for i := range n {
		m = append(m, unit(n, i))
	}
	level, e := hull.Preimage(cone, append(m, make([]exact.Q, n)), unit(n+1, n))
	if e != api.OK {
		return hull.Poly{}, e
	}
	return hull.Canon(level)
}

// joined returns the canonical description of the convex hull of two polyhedra,
// which are bounded and not void, however many corners they have: of what the
// sum of their cones has at the height 1.
func joined(p, q hull.Poly) (hull.Poly, api.Errno) {
	cone, e := hull.Sum(raised(p), raised(q))
	if e != api.OK {
		return hull.Poly{}, e
	}
	return lowered(cone)
}

// enclose returns the canonical description of the convex hull of canonical
// polyhedra, at least one, which are bounded and not void. If they have too
// many corners, each half of them is enclosed first.
func enclose(l []hull.Poly) (hull.Poly, api.Errno) {
	if len(l) == 1 {
		return l[0], api.OK
	}
	if points, ok := tips(l); ok {
		return limited(hull.Hull(l[0].N, points, nil))
	}
	if len(l) == 2 {
		return limited(joined(l[0], l[1]))
	}
	half := len(l) / 2
	first, e := enclose(l[:half])
	if e != api.OK {
		return hull.Poly{}, e
	}
	second, e := enclose(l[half:])
	if e != api.OK {
		return hull.Poly{}, e
	}
	return enclose([]hull.Poly{first, second})
}
