package balance

import (
	"amble/exact"
	"amble/hull"
)

// The steps of a pendulum are the points of a polyhedron of four numbers: X and
// V of the state from which the step leads, behind the push; the pressure; and
// the length.

// unit returns a list of n numbers, of which one is 1 and all others are 0.
func unit(n, at int) []exact.Q {
	l := make([]exact.Q, n)
	l[at] = exact.Int(1)
	return l
}

// starts returns the matrix that gives the states from which steps lead.
func starts() exact.Mat { return exact.Mat{unit(4, 0), unit(4, 1)} }

// swings returns the matrix that gives the states after the swings of steps.
func (w walker) swings() exact.Mat {
	return exact.Mat{
		list(w.c, w.s, exact.Int(1).Sub(w.c), exact.Q{}),
		list(w.s, w.c, w.s.Neg(), exact.Q{}),
	}
}

// ends returns the matrix that gives the states behind steps.
func (w walker) ends() exact.Mat {
	ends := w.swings()
	ends[0][3] = exact.Int(-1)
	return ends
}

// where returns the polyhedron of the points x for which m x + v is in a set;
// the numbers of v that are not given are 0.
func where(set hull.Poly, m exact.Mat, v ...exact.Q) hull.Poly {
	from := make([]exact.Q, set.N)
	copy(from, v)
	inside, _ := hull.Preimage(set, m, from)
	return inside
}

// meet returns the polyhedron with the rows of all. They are few: the sets are
// polygons, and a step more gives a set a few sides more.
func meet(l ...hull.Poly) hull.Poly {
	all, _ := hull.Meet(l...)
	return all
}

// bounds returns the states in bounds.
func (w walker) bounds() hull.Poly {
	return collect(2, interval(w.Near, w.Far, unit(2, 0)...))
}

// rest returns the states in bounds from which a swing, with a pressure that
// the foot allows, comes to rest.
func (w walker) rest() hull.Poly {
	one := exact.Int(1)
	return meet(w.bounds(), collect(2, interval(w.Heel, w.Toe, one, one)))
}

// into returns the steps that lead into a set, and are in bounds after the
// swing.
func (w walker) into(goal hull.Poly) hull.Poly {
	moves := collect(4, interval(w.Heel, w.Toe, unit(4, 2)...), interval(w.Short, w.Long, unit(4, 3)...))
	return meet(moves, where(w.bounds(), w.swings()), where(goal, w.ends()))
}

// back returns the step back from a set: what gives, for a state, the pairs of
// a pressure and a length with which a step leads from it into the set.
func (w walker) back(goal hull.Poly) func(State) hull.Poly {
	steps := w.into(goal)
	none := make([]exact.Q, 2)
	return func(s State) hull.Poly {
		pairs := where(steps, exact.Mat{none, none, unit(2, 0), unit(2, 1)}, s.X, s.V)
		if !w.isInBounds(s) {
			pairs.Rows = append(pairs.Rows, row(exact.Int(-1), none...))
		}
		return pairs
	}
}
