package pose

import (
	"slices"

	"amble/api"
	"amble/exact"
	"amble/machine"
)

// leg is what two hinges, one behind the other, can move. The hip is where the
// first one is; base is how the frame above it is turned. upper leads from the
// hip to the second hinge, the knee, and lower from there to the point that is
// moved, each in the frame of its own body.
type leg struct {
	thigh, shin  machine.Body
	hip          exact.Point
	base         exact.Rot
	upper, lower exact.Point
}

// legTo returns the leg that ends at the point of a body.
func legTo(m machine.Machine, p Pose, body int, at exact.Point) (leg, api.Errno) {
	q, e := placeBody(m, p, body)
	if e != api.OK {
		return leg{}, e
	}
	if body == 0 || q.Bodies[body].Parent == 0 {
		return leg{}, api.ErrArg
	}
	shin := q.Bodies[body]
	thigh := q.Bodies[shin.Parent]
	above := q.frame(thigh.Parent)
	return leg{thigh, shin, above.world(thigh.At), above.Rot, shin.At, at}, api.OK
}

func isZero(p exact.Point) bool { return p.X.Sign() == 0 && p.Z.Sign() == 0 }

// knees returns the half tangents of the knee for which the point is as far
// from the hip as the goal is; ErrMany: all of them. For the angle of the knee
// with the cosine C and the sine S this is C dot - S cross = along, which half
// tangents make a quadratic equation.
func (l leg) knees(goal exact.Point) ([]exact.Surd, api.Errno) {
	half, _ := exact.Of(1, 2)
	along := goal.Dot(goal).Sub(l.upper.Dot(l.upper)).Sub(l.lower.Dot(l.lower)).Mul(half)
	dot, cross := l.upper.Dot(l.lower), l.upper.Cross(l.lower)
	return exact.Roots(along.Add(dot), cross.Add(cross), along.Sub(dot))
}

// bent returns the point as seen from the hip, in the frame of the thigh.
func (l leg) bent(f field, knee exact.Surd) spot {
	return each(spotOf(l.upper), f.turn(spotOf(l.lower), f.rotation(knee)), f.plus)
}

// hipFor returns the half tangent of the hip that brings the point to the
// goal, which is not the hip and as far from it as the point; false: the hip
// would have to be turned by half a turn.
func (l leg) hipFor(knee exact.Surd, goal exact.Point) (exact.Surd, bool) {
	f := field{knee.D}
	from, to := l.bent(f, knee), spotOf(goal)
	under := f.plus(rational(goal.Dot(goal)), f.dot(from, to))
	if sign, _ := under.Sign(); sign == 0 {
		return exact.Surd{}, false
	}
	tangent, _ := f.over(f.cross(from, to), under).Normal()
	return tangent, true
}

// bends returns all bends that bring the point to the goal, which is seen from
// the hip in the frame in which it turns.
func (l leg) bends(goal exact.Point) ([]Bend, api.Errno) {
	knees, e := l.knees(goal)
	switch {
	case e == api.OK && len(knees) == 0:
		return nil, api.OK
	case isZero(goal): // the point is at the hip, which is free
		return nil, api.ErrMany
	case e != api.OK && isZero(l.lower): // the knee is free, if the hip has a half tangent
		if _, ok := l.hipFor(exact.Surd{}, goal); !ok {
			return nil, api.OK
		}
		return nil, api.ErrMany
	case e != api.OK: // knee and hip are at one place: only their sum counts
		return nil, api.ErrMany
	}
	var bends []Bend
	for _, knee := range knees {
		if hip, ok := l.hipFor(knee, goal); ok {
			bends = append(bends, Bend{hip, knee, allows(l.thigh, hip) && allows(l.shin, knee)})
		}
	}
	return bends, api.OK
}

// Bends returns all bends of a body for a point and a target.
func Bends(m machine.Machine, p Pose, body int, at, target exact.Point) ([]Bend, api.Errno) {
	l, e := legTo(m, p, body, at)
	if e != api.OK {
		return nil, e
	}
	return l.bends(target.Sub(l.hip).Turn(l.base.Back()))
}

// Reachable reports whether there is a bend within the limits.
func Reachable(m machine.Machine, p Pose, body int, at, target exact.Point) (bool, api.Errno) {
	bends, e := Bends(m, p, body, at, target)
	return slices.ContainsFunc(bends, func(b Bend) bool { return b.Within }), e
}

// inField returns two numbers in normal form, and the field that has both;
// false: there is none.
func inField(s, t exact.Surd) (hip, knee exact.Surd, f field, ok bool) {
	if s.D.Sign() != 0 && t.D.Sign() != 0 && s.D.Cmp(t.D) != 0 {
		return hip, knee, f, false
	}
	hip, e := s.Normal()
	if e != api.OK {
		return hip, knee, f, false
	}
	knee, e = t.Normal()
	return hip, knee, field{exact.Max(hip.D, knee.D)}, e == api.OK
}

// Bent returns where the point of a body is with a bend.
func Bent(m machine.Machine, p Pose, body int, at exact.Point, b Bend) (x, z exact.Surd, e api.Errno) {
	l, e := legTo(m, p, body, at)
	if e != api.OK {
		return x, z, e
	}
	hip, knee, f, ok := inField(b.A, b.B)
	if !ok {
		return x, z, api.ErrArg
	}
	base := spot{rational(l.base.C), rational(l.base.S)}
	moved := f.turn(f.turn(l.bent(f, knee), f.rotation(hip)), base)
	point := each(spotOf(l.hip), moved, f.plus)
	x, _ = point.x.Normal()
	z, _ = point.z.Normal()
	return x, z, api.OK
}
