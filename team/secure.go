package team

import (
	"amble/api"
	"amble/exact"
	"amble/hull"
)

// secured returns the polyhedron of shares that hold the load, and behind them,
// for each carrier, of shares without it that are near to them.
func secured(l []Carrier, w Load) hull.Poly {
	n := len(l)
	p := hull.Poly{N: n + n*n}
	hold := func(l []Carrier, from int) {
		for r := range rows(l, w) {
			p.Rows = append(p.Rows, hull.Row{A: longer(p.N, from, r.A), B: r.B})
		}
	}
	hold(l, 0)
	for who := range l {
		from := n + n*who
		hold(without(l, who), from)
		for i, c := range l {
			if i == who {
				continue
			}
			rise := unit(p.N, from+i)
			rise[i] = exact.Int(-1)
			most, least := hull.Row{A: rise, B: c.Jump}, hull.Row{A: rise, B: c.Jump.Neg()}
			p.Rows = append(p.Rows, most, opposite(least))
		}
	}
	return p
}

// Secure returns the best secure shares, and their cost.
func Secure(l []Carrier, w Load) (shares []exact.Q, cost exact.Q, e api.Errno) {
	switch e := Check(l, w); {
	case e != api.OK:
		return nil, exact.Q{}, e
	case len(l) > api.MaxSecure:
		return nil, exact.Q{}, api.ErrLimit
	}
	return best(secured(l, w), costs(l))
}
