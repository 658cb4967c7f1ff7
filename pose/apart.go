package pose

import (
	"amble/api"
	"amble/exact"
	"amble/hull"
	"amble/machine"
)

// side returns the row that is true for the numbers X and Z of a normal, and an
// offset, if the point lies below the line by at least 1; if it is to lie above
// it, sign is -1.
func side(p exact.Point, sign int64) hull.Row {
	by := exact.Int(sign)
	return hull.Row{A: []exact.Q{p.X.Mul(by), p.Z.Mul(by), by.Neg()}, B: exact.Int(-1)}
}

// lines returns the polyhedron of the lines that have all points of a below
// and all points of b above them.
func lines(a, b []exact.Point) hull.Poly {
	p := hull.Poly{N: 3}
	for _, point := range a {
		p.Rows = append(p.Rows, side(point, 1))
	}
	for _, point := range b {
		p.Rows = append(p.Rows, side(point, -1))
	}
	return p
}

// weighted returns the sum of points times their weights.
func weighted(points []exact.Point, weights []exact.Q) exact.Point {
	var sum exact.Point
	for i, p := range points {
		sum = sum.Add(p.Scale(weights[i]))
	}
	return sum
}

// common returns the verdict that weights of points give which show that no
// line is between them: those of a and those of b have the same sum, above 0,
// and so have the points.
func common(a []exact.Point, shown []exact.Q) Verdict {
	sum := exact.Sum(shown[:len(a)]...)
	weights := make([]exact.Q, len(shown))
	for i, weight := range shown {
		weights[i] = over(weight, sum)
	}
	return Verdict{Common: true, Point: weighted(a, weights[:len(a)]), Weights: weights}
}

// Apart returns a verdict about two lists of points.
func Apart(a, b []exact.Point) (Verdict, api.Errno) {
	if len(a) == 0 || len(b) == 0 {
		return Verdict{}, api.ErrVoid
	}
	if len(a) > api.MaxCloud || len(b) > api.MaxCloud {
		return Verdict{}, api.ErrLimit
	}
	answer, e := hull.Maximize(make([]exact.Q, 3), lines(a, b))
	if e != api.OK {
		return Verdict{}, e
	}
	if answer.Kind == hull.Void {
		return common(a, answer.Weights), api.OK
	}
	line := answer.Point
	return Verdict{Normal: exact.Point{X: line[0], Z: line[1]}, Offset: line[2]}, api.OK
}

// showsCommon reports whether v is right about points that have a common one.
func (v Verdict) showsCommon(a, b []exact.Point) bool {
	if len(v.Weights) != len(a)+len(b) || exact.Min(v.Weights...).Sign() < 0 {
		return false
	}
	return v.isMean(a, v.Weights[:len(a)]) && v.isMean(b, v.Weights[len(a):]) &&
		isZero(v.Normal) && v.Offset.Sign() == 0
}

// isMean reports whether the verdict's point is the mean of points with
// weights.
func (v Verdict) isMean(points []exact.Point, weights []exact.Q) bool {
	return exact.Sum(weights...).Cmp(exact.Int(1)) == 0 && isZero(weighted(points, weights).Sub(v.Point))
}

// areOn reports whether all points are on one side of the line: below it if
// the sign is -1, above it if it is 1.
func (v Verdict) areOn(points []exact.Point, sign int) bool {
	for _, p := range points {
		if v.Normal.Dot(p).Cmp(v.Offset) != sign {
			return false
		}
	}
	return true
}

// ProveApart reports whether v is a verdict about a and b.
func ProveApart(a, b []exact.Point, v Verdict) bool {
	if len(a) == 0 || len(b) == 0 {
		return false
	}
	if v.Common {
		return v.showsCommon(a, b)
	}
	return v.areOn(a, -1) && v.areOn(b, 1) && isZero(v.Point) && len(v.Weights) == 0
}

// Collisions returns the pairs of bodies, without a hinge between them, whose
// shapes have a common point. A body without a shape has none.
func Collisions(m machine.Machine, p Pose) ([][2]int, api.Errno) {
	q, e := place(m, p)
	if e != api.OK {
		return nil, e
	}
	shapes := q.shapes()
	var pairs [][2]int
	for i := range shapes {
		for j := i + 1; j < len(shapes); j++ {
			if q.Bodies[j].Parent == i {
				continue
			}
			if v, _ := Apart(shapes[i], shapes[j]); v.Common {
				pairs = append(pairs, [2]int{i, j})
			}
		}
	}
	return pairs, api.OK
}
