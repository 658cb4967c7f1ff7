package wear

import (
	"amble/api"
	"amble/exact"
	"amble/hull"
)

// checkFit returns the first error of knots, a limit and records.
func checkFit(knots []exact.Q, l Limit, records []Record) api.Errno {
	switch {
	case !areKnots(knots) || !isLimit(l):
		return api.ErrArg
	case len(records) > api.MaxRecords:
		return api.ErrLimit
	}
	return api.OK
}

// program is a linear program while its rows are collected: for the moments of
// so many knots, and the error behind them.
type program struct {
	knots int
	rows  []hull.Row
}

// within adds two rows: the sum of the shares of the moments differs from a
// number by at most most, and by the error if it may be off.
func (p *program) within(shares []exact.Q, number, most exact.Q, mayBeOff bool) {
	above, below := make([]exact.Q, p.knots+1), make([]exact.Q, p.knots+1)
	for i, share := range shares {
		above[i], below[i] = share, share.Neg()
	}
	if mayBeOff {
		above[p.knots], below[p.knots] = exact.Int(-1), exact.Int(-1)
	}
	p.rows = append(p.rows, hull.Row{A: above, B: most.Add(number)}, hull.Row{A: below, B: most.Sub(number)})
}

// lesser returns numbers for so many knots and the error: -1 for the error, 0
// for the others.
func lesser(knots int) []exact.Q {
	l := make([]exact.Q, knots+1)
	l[knots] = exact.Int(-1)
	return l
}

// programOf returns the linear program of a fit.
func programOf(knots []exact.Q, l Limit, records []Record) hull.Poly {
	p := program{knots: len(knots)}
	for _, x := range knots {
		p.within(shares(knots, x), exact.Q{}, l.Moment, false)
	}
	for i := range len(knots) - 1 {
		rise := make([]exact.Q, len(knots))
		rise[i], rise[i+1] = exact.Int(-1), exact.Int(1)
		p.within(rise, exact.Q{}, l.Rate.Mul(knots[i+1].Sub(knots[i])), false)
	}
	for _, r := range records {
		p.within(shares(knots, r.Sample.Angle), r.Moment, exact.Q{}, true)
	}
	return hull.Poly{N: p.knots + 1, Rows: append(p.rows, hull.Row{A: lesser(p.knots)})}
}

// Fit returns the least of the allowed curves over the knots that have the
// least error, the error, and an answer that proves that there is no lesser one.
// (There are allowed curves, and their moments and errors are bounded.)
func Fit(knots []exact.Q, l Limit, records []Record) (Fitted, api.Errno) {
	if e := checkFit(knots, l, records); e != api.OK {
		return Fitted{}, e
	}
	p := programOf(knots, l, records)
	proof, _ := hull.Maximize(lesser(len(knots)), p)
	off := proof.Value.Neg()
	best := make([]exact.Q, p.N)
	best[len(knots)] = exact.Int(1)
	p.Rows = append(p.Rows, hull.Row{A: best, B: off})
	moments, _ := hull.Least(p)
	var c Curve
	for i, x := range knots {
		c = append(c, exact.Point{X: x, Z: moments[i]})
	}
	return Fitted{c, off, proof}, api.OK
}

// isAllowed reports whether a curve keeps to a limit.
func isAllowed(c Curve, l Limit) bool {
	for i, p := range c {
		if p.Z.Abs().Cmp(l.Moment) > 0 {
			return false
		}
		if i > 0 {
			step := p.Sub(c[i-1])
			if step.Z.Abs().Cmp(l.Rate.Mul(step.X)) > 0 {
				return false
			}
		}
	}
	return true
}

// offOf returns the error of a valid curve.
func offOf(c Curve, records []Record) exact.Q {
	var most exact.Q
	for _, r := range records {
		most = exact.Max(most, momentAt(c, r.Sample.Angle).Sub(r.Moment).Abs())
	}
	return most
}

// hasKnots reports whether a curve has these angles.
func hasKnots(c Curve, knots []exact.Q) bool {
	if len(c) != len(knots) {
		return false
	}
	for i, x := range knots {
		if c[i].X.Cmp(x) != 0 {
			return false
		}
	}
	return true
}

// ProveFit reports whether f is an allowed curve over the knots, with its error
// and a right proof that no allowed one has a lesser error.
func ProveFit(knots []exact.Q, l Limit, records []Record, f Fitted) bool {
	if checkFit(knots, l, records) != api.OK || !hasKnots(f.Curve, knots) || !isAllowed(f.Curve, l) {
		return false
	}
	isBest := f.Proof.Kind == hull.Optimal && f.Proof.Value.Cmp(f.Off.Neg()) == 0
	return isBest && offOf(f.Curve, records).Cmp(f.Off) == 0 &&
		hull.Prove(lesser(len(knots)), programOf(knots, l, records), f.Proof)
}

// OffOf returns the error of a curve.
func OffOf(c Curve, records []Record) (exact.Q, api.Errno) {
	if e := checkFit(knotsOf(c), Limit{}, records); e != api.OK {
		return exact.Q{}, e
	}
	return offOf(c, records), api.OK
}
