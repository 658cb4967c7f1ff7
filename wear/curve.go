package wear

import (
	"amble/api"
	"amble/exact"
)

// knotsOf returns the angles of a curve's points.
func knotsOf(c Curve) []exact.Q {
	var knots []exact.Q
	for _, p := range c {
		knots = append(knots, p.X)
	}
	return knots
}

// areKnots reports whether numbers may be the angles of a curve.
func areKnots(l []exact.Q) bool {
	for i := range l {
		if i > 0 && l[i-1].Cmp(l[i]) >= 0 {
			return false
		}
	}
	return 1 <= len(l) && len(l) <= api.MaxKnots
}

func isCurve(c Curve) bool { return areKnots(knotsOf(c)) }

// shares returns for each knot of a curve which part of its moment the moment at
// an angle has: the parts of one knot, or of two neighbours, are not 0.
func shares(knots []exact.Q, angle exact.Q) []exact.Q {
	l := make([]exact.Q, len(knots))
	after := 0
	for after < len(knots) && knots[after].Cmp(angle) <= 0 {
		after++
	}
	switch after {
	case 0:
		l[0] = exact.Int(1)
	case len(knots):
		l[after-1] = exact.Int(1)
	default:
		before := knots[after-1]
		part, _ := angle.Sub(before).Div(knots[after].Sub(before))
		l[after-1], l[after] = exact.Int(1).Sub(part), part
	}
	return l
}

// momentAt returns the moment of a valid curve at an angle.
func momentAt(c Curve, angle exact.Q) exact.Q {
	var sum exact.Q
	for i, share := range shares(knotsOf(c), angle) {
		if share.Sign() != 0 {
			sum = sum.Add(share.Mul(c[i].Z))
		}
	}
	return sum
}

// At returns the moment of a curve at an angle.
func At(c Curve, angle exact.Q) (exact.Q, api.Errno) {
	if !isCurve(c) {
		return exact.Q{}, api.ErrArg
	}
	return momentAt(c, angle), api.OK
}
