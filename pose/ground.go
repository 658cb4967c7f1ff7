package pose

import (
	"slices"

	"amble/api"
	"amble/exact"
	"amble/machine"
)

// CheckGround returns ErrArg if the ground is not valid.
func CheckGround(g Ground) api.Errno {
	if len(g) < 2 || len(g) > api.MaxGround {
		return api.ErrArg
	}
	for i := 1; i < len(g); i++ {
		if g[i-1].X.Cmp(g[i].X) >= 0 {
			return api.ErrArg
		}
	}
	return api.OK
}

// sideAt returns the ends of the side that contains x, in a valid ground, and
// false if there is none: then it is level there, and both ends are the point
// that is nearest.
func (g Ground) sideAt(x exact.Q) (from, to exact.Point, ok bool) {
	next := slices.IndexFunc(g, func(p exact.Point) bool { return p.X.Cmp(x) > 0 })
	switch next {
	case 0:
		return g[0], g[0], false
	case -1:
		last := g[len(g)-1]
		return last, last, false
	}
	return g[next-1], g[next], true
}

// height is Height in a valid ground.
func (g Ground) height(x exact.Q) exact.Q {
	from, to, ok := g.sideAt(x)
	if !ok {
		return from.Z
	}
	along := to.Sub(from)
	return from.Z.Add(over(along.Z.Mul(x.Sub(from.X)), along.X))
}

// gap returns how high above a valid ground a point is.
func (g Ground) gap(p exact.Point) exact.Q { return p.Z.Sub(g.height(p.X)) }

// Height returns the height of the ground at x.
func Height(g Ground, x exact.Q) (exact.Q, api.Errno) {
	if e := CheckGround(g); e != api.OK {
		return exact.Q{}, e
	}
	return g.height(x), api.OK
}

// Along returns the direction of the ground at x.
func Along(g Ground, x exact.Q) (exact.Point, api.Errno) {
	if e := CheckGround(g); e != api.OK {
		return exact.Point{}, e
	}
	from, to, ok := g.sideAt(x)
	if !ok {
		return exact.Point{X: exact.Int(1)}, api.OK
	}
	return to.Sub(from), api.OK
}

// placeOn is place, with ErrArg if the ground is not valid.
func placeOn(m machine.Machine, p Pose, g Ground) (placed, api.Errno) {
	q, e := place(m, p)
	if e != api.OK {
		return placed{}, e
	}
	if e := CheckGround(g); e != api.OK {
		return placed{}, e
	}
	return q, api.OK
}

// Gaps returns the gaps of the points of each foot.
func Gaps(m machine.Machine, p Pose, g Ground) ([][]exact.Q, api.Errno) {
	q, e := placeOn(m, p, g)
	if e != api.OK {
		return nil, e
	}
	gaps := make([][]exact.Q, len(q.Feet))
	for i, sole := range q.soles() {
		for _, point := range sole {
			gaps[i] = append(gaps[i], g.gap(point))
		}
	}
	return gaps, api.OK
}

// rises reports whether the ground has a point strictly above the line from
// one point to another, which is further to the right, between them.
func (g Ground) rises(from, to exact.Point) bool {
	return slices.ContainsFunc(g, func(p exact.Point) bool {
		isBetween := p.X.Cmp(from.X) > 0 && p.X.Cmp(to.X) < 0
		return isBetween && to.Sub(from).Cross(p.Sub(from)).Sign() > 0
	})
}

// swallows reports whether a shape has a point below the ground. Along a side
// of it the gap is least at an end, or where the ground has a corner. Only the
// sides that lead to the right have the shape above them.
func (g Ground) swallows(shape []exact.Point) bool {
	for i, corner := range shape {
		next := shape[(i+1)%len(shape)]
		if g.gap(corner).Sign() < 0 || g.rises(corner, next) {
			return true
		}
	}
	return false
}

// Sunk returns the bodies whose shape has a point below the ground.
func Sunk(m machine.Machine, p Pose, g Ground) ([]int, api.Errno) {
	q, e := placeOn(m, p, g)
	if e != api.OK {
		return nil, e
	}
	var bodies []int
	for i, shape := range q.shapes() {
		if g.swallows(shape) {
			bodies = append(bodies, i)
		}
	}
	return bodies, api.OK
}
