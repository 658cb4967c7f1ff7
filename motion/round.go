package motion

import (
	"slices"

	"amble/api"
	"amble/exact"
)

// isGrade reports whether k says how fine a multiple of a power of 2 is.
func isGrade(k int) bool { return k >= 0 && k <= api.MaxFine }

// rounder returns what replaces a number by the nearest multiple of 2^-k.
func rounder(k int) func(exact.Q) exact.Q {
	fine := exact.Int(1)
	for range k {
		fine = fine.Add(fine)
	}
	return func(q exact.Q) exact.Q { return over(q.Mul(fine).Round(), fine) }
}

// clone returns the state in new memory.
func (s State) clone() State {
	return State{slices.Clone(s.At), slices.Clone(s.Rot), slices.Clone(s.Speed), slices.Clone(s.Heat)}
}

// rounded returns the state rounded to k, in new memory.
func (s State) rounded(k int) State {
	round := rounder(k)
	s = s.clone()
	for i, p := range s.At {
		s.At[i] = exact.Point{X: round(p.X), Z: round(p.Z)}
	}
	for i, r := range s.Rot {
		if tangent, ok := r.Half(); ok {
			s.Rot[i] = exact.Turn(round(tangent))
		}
	}
	for _, l := range [][]exact.Q{s.Speed, s.Heat} {
		for i, q := range l {
			l[i] = round(q)
		}
	}
	return s
}

// Round returns the state rounded to k.
func Round(w World, s State, k int) (State, api.Errno) {
	now, e := enter(w, s)
	if e != api.OK {
		return State{}, e
	}
	if !isGrade(k) {
		return State{}, api.ErrRange
	}
	return now.rounded(k), api.OK
}
