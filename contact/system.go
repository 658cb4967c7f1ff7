package contact

import (
	"slices"

	"amble/api"
	"amble/exact"
)

// haveLength reports whether all rows have n numbers.
func haveLength(n int, rows ...[]exact.Q) bool {
	for _, row := range rows {
		if len(row) != n {
			return false
		}
	}
	return true
}

// invert returns the inverse of a mass matrix; false: it is none.
func invert(m exact.Mat) (exact.Mat, bool) {
	is, _, e := exact.Semidefinite(m)
	if !is || e != api.OK {
		return nil, false
	}
	inverse, e := exact.Inverse(m)
	return inverse, e == api.OK
}

// bonds are bilateral rows, and the velocities that an impulse of 1 of each of
// them gives.
type bonds struct{ rows, pushes exact.Mat }

func bind(inverse, rows exact.Mat) bonds {
	b := bonds{rows: rows}
	for _, row := range rows {
		b.pushes = append(b.pushes, times(inverse, row))
	}
	return b
}

// hold returns what the bonds leave of some velocities: their impulses, any
// that do it, take the rest away.
func (b bonds) hold(velocities ...[]exact.Q) exact.Mat {
	form := make(exact.Mat, len(b.rows))
	for i, row := range b.rows {
		form[i] = append(times(b.pushes, row), times(velocities, row)...)
	}
	form, pivots, _ := exact.Rref(form)
	held := make(exact.Mat, len(velocities))
	for c, v := range velocities {
		held[c] = slices.Clone(v)
		for i, pivot := range pivots {
			held[c] = plus(held[c], form[i][len(b.rows)+c].Neg(), b.pushes[pivot])
		}
	}
	return held
}

// across returns the matrix with n rows whose columns are the lists.
func across(n int, columns exact.Mat) exact.Mat {
	m := make(exact.Mat, n)
	for i := range m {
		m[i] = make([]exact.Q, len(columns))
		for c, column := range columns {
			m[i][c] = column[i]
		}
	}
	return m
}

// Assemble returns the system with the mass matrix m, the bilateral rows b, the
// contact rows j, the velocities v, and the frictions and the restitution of
// its problem.
func Assemble(m, b, j exact.Mat, v, mu []exact.Q, e exact.Q) (System, api.Errno) {
	n := len(m)
	if !areTouches(mu, e) || len(j) != 2*len(mu) || !haveLength(n, v) || !haveLength(n, b...) || !haveLength(n, j...) {
		return System{}, api.ErrArg
	}
	inverse, ok := invert(m)
	if !ok {
		return System{}, api.ErrArg
	}
	pushed := exact.Mat{v}
	for _, row := range j {
		pushed = append(pushed, times(inverse, row))
	}
	held := bind(inverse, b).hold(pushed...)
	free, lifts := held[0], held[1:]
	x := Problem{V: times(j, free), Mu: slices.Clone(mu), E: e}
	for _, row := range j {
		x.G = append(x.G, times(lifts, row))
	}
	return System{Problem: x, Free: free, Lift: across(n, lifts)}, api.OK
}

// Speeds returns the velocities of a system after impulses.
func Speeds(s System, p []exact.Q) ([]exact.Q, api.Errno) {
	if len(s.Lift) != len(s.Free) || !haveLength(len(p), s.Lift...) || len(s.Lift) == 0 && len(p) > 0 {
		return nil, api.ErrArg
	}
	return plus(s.Free, exact.Int(1), times(s.Lift, p)), api.OK
}
