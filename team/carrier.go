package team

import (
	"iter"
	"slices"

	"amble/api"
	"amble/exact"
	"amble/hull"
)

func (c Carrier) isValid() bool {
	return c.Low.Sign() >= 0 && c.Low.Cmp(c.High) <= 0 && c.Cost.Sign() >= 0 && c.Jump.Sign() >= 0
}

// Check returns ErrArg if the carriers and the load are not valid.
func Check(l []Carrier, w Load) api.Errno {
	isWrong := func(c Carrier) bool { return !c.isValid() }
	if len(l) == 0 || len(l) > api.MaxTeam || slices.ContainsFunc(l, isWrong) || w.Weight.Sign() <= 0 {
		return api.ErrArg
	}
	return api.OK
}

// each returns a number of each carrier.
func each(l []Carrier, number func(Carrier) exact.Q) []exact.Q {
	var all []exact.Q
	for _, c := range l {
		all = append(all, number(c))
	}
	return all
}

func places(l []Carrier) []exact.Q { return each(l, func(c Carrier) exact.Q { return c.At }) }

func costs(l []Carrier) []exact.Q { return each(l, func(c Carrier) exact.Q { return c.Cost }) }

func ones(l []Carrier) []exact.Q { return each(l, func(Carrier) exact.Q { return exact.Int(1) }) }

// opposite returns the row that is true for the points for which the numbers of
// a row are not below its B.
func opposite(r hull.Row) hull.Row {
	var negated []exact.Q
	for _, q := range r.A {
		negated = append(negated, q.Neg())
	}
	return hull.Row{A: negated, B: r.B.Neg()}
}

// rows yields the rows of the system; those of the load's place come last.
func rows(l []Carrier, w Load) iter.Seq[hull.Row] {
	return func(yield func(hull.Row) bool) {
		for i, c := range l {
			low, high := hull.Row{A: unit(len(l), i), B: c.Low}, hull.Row{A: unit(len(l), i), B: c.High}
			if !yield(opposite(low)) || !yield(high) {
				return
			}
		}
		weight, moment := hull.Row{A: ones(l), B: w.Weight}, hull.Row{A: places(l), B: w.Weight.Mul(w.At)}
		for _, sum := range [...]hull.Row{weight, moment} {
			if !yield(sum) || !yield(opposite(sum)) {
				return
			}
		}
	}
}

func system(l []Carrier, w Load) hull.Poly {
	p := hull.Poly{N: len(l)}
	for r := range rows(l, w) {
		p.Rows = append(p.Rows, r)
	}
	return p
}

// System returns the polyhedron of the shares that hold the load.
func System(l []Carrier, w Load) (hull.Poly, api.Errno) {
	if e := Check(l, w); e != api.OK {
		return hull.Poly{}, e
	}
	return system(l, w), api.OK
}

// Holds reports whether the carriers and the load are valid, and the shares hold
// the load.
func Holds(l []Carrier, w Load, shares []exact.Q) bool {
	return Check(l, w) == api.OK && hull.Has(system(l, w), shares)
}
