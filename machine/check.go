package machine

import (
	"slices"

	"amble/api"
	"amble/exact"
)

// isName reports whether s is a name.
func isName(s string) bool {
	if s == "" || len(s) > api.MaxName || isDigit(s[0]) {
		return false
	}
	for i := range len(s) {
		if !isLetter(s[i]) && !isDigit(s[i]) && s[i] != '_' {
			return false
		}
	}
	return true
}

func isDigit(b byte) bool { return b >= '0' && b <= '9' }

func isLetter(b byte) bool { return b >= 'a' && b <= 'z' || b >= 'A' && b <= 'Z' }

// part is one of the lists of a machine: how many elements it has, and may
// have, and what is wrong with one of them.
type part struct {
	count, most int
	errorOf     func(i int) api.Errno
}

// firstError returns the first error of the list.
func (p part) firstError() api.Errno {
	if p.count > p.most {
		return api.ErrLimit
	}
	for i := range p.count {
		if e := p.errorOf(i); e != api.OK {
			return e
		}
	}
	return api.OK
}

// lastError returns the error of the last element, which is the only one that
// may be one too many.
func (p part) lastError() api.Errno {
	if p.count > p.most {
		return api.ErrLimit
	}
	return p.errorOf(p.count - 1)
}

// parts returns the lists of m by the kinds of their places.
func (m Machine) parts() map[uint8]part {
	return map[uint8]part{
		OfBody:   {len(m.Bodies), api.MaxBodies, m.bodyError},
		OfSpring: {len(m.Springs), api.MaxSprings, m.springError},
		OfTendon: {len(m.Tendons), api.MaxTendons, m.tendonError},
		OfMotor:  {len(m.Motors), len(m.Bodies), m.motorError},
		OfFoot:   {len(m.Feet), api.MaxFeet, m.footError},
	}
}

// Check returns the first error of a machine.
func Check(m Machine) api.Errno {
	if !isName(m.Name) {
		return api.ErrName
	}
	if len(m.Bodies) == 0 {
		return api.ErrArg
	}
	parts := m.parts()
	for kind := OfBody; kind <= OfFoot; kind++ {
		if e := parts[kind].firstError(); e != api.OK {
			return e
		}
	}
	return api.OK
}

// bodyNamed returns the first body with a name.
func (m Machine) bodyNamed(name string) (int, bool) {
	i := slices.IndexFunc(m.Bodies, func(b Body) bool { return b.Name == name })
	return i, i >= 0
}

// isBody reports whether i is the number of a body.
func (m Machine) isBody(i int) bool { return i >= 0 && i < len(m.Bodies) }

func (m Machine) bodyError(i int) api.Errno {
	b := m.Bodies[i]
	if !isName(b.Name) {
		return api.ErrName
	}
	if first, _ := m.bodyNamed(b.Name); first < i {
		return api.ErrTwice
	}
	if !b.isHung(i) || b.Mass.Sign() <= 0 || b.Inertia.Sign() <= 0 || !isShape(b.Shape) {
		return api.ErrArg
	}
	return api.OK
}

// isHung reports whether b is placed as the body i of a machine may be.
func (b Body) isHung(i int) bool {
	if i == 0 {
		return b.Parent == -1 && samePoint(b.At, exact.Point{}) && b.Low.Sign() == 0 && b.High.Sign() == 0
	}
	return b.Parent >= 0 && b.Parent < i && b.Low.Cmp(b.High) <= 0
}

// isShape reports whether l may be the shape of a body: whether each side turns
// left against the one before it, and all of them together once around. Then,
// and only then, each corner lies to the left of each side of others.
func isShape(l []exact.Point) bool {
	if len(l) == 0 {
		return true
	}
	if len(l) < 3 || len(l) > api.MaxShape {
		return false
	}
	rounds := 0
	last := l[0].Sub(l[len(l)-1])
	for i, corner := range l {
		side := l[(i+1)%len(l)].Sub(corner)
		if last.Cross(side).Sign() <= 0 {
			return false
		}
		if !isUpward(last) && isUpward(side) {
			rounds++
		}
		last = side
	}
	return rounds == 1
}

// isUpward reports whether the angle of p is at least 0 and less than half a
// turn.
func isUpward(p exact.Point) bool { return p.Z.Sign() > 0 || p.Z.Sign() == 0 && p.X.Sign() > 0 }

// areTwo reports whether a and b are the numbers of two bodies.
func (m Machine) areTwo(a, b int) bool { return m.isBody(a) && m.isBody(b) && a != b }

func (m Machine) springError(i int) api.Errno {
	s := m.Springs[i]
	if !m.areTwo(s.A, s.B) || s.Stiff.Sign() < 0 {
		return api.ErrArg
	}
	return api.OK
}

func (m Machine) tendonError(i int) api.Errno {
	t := m.Tendons[i]
	if !m.areTwo(t.A, t.B) || t.Length.Sign() <= 0 {
		return api.ErrArg
	}
	return api.OK
}

func (m Machine) motorError(i int) api.Errno {
	motor := m.Motors[i]
	if !m.isBody(motor.Body) || motor.Body == 0 || motor.Most.Sign() <= 0 {
		return api.ErrArg
	}
	if exact.Min(motor.Torque, motor.Heating, motor.Cooling).Sign() < 0 {
		return api.ErrArg
	}
	for _, earlier := range m.Motors[:i] {
		if earlier.Body == motor.Body {
			return api.ErrTwice
		}
	}
	return api.OK
}

func (m Machine) footError(i int) api.Errno {
	f := m.Feet[i]
	if !m.isBody(f.Body) || len(f.Points) < 1 || len(f.Points) > 2 || f.Friction.Sign() < 0 {
		return api.ErrArg
	}
	if len(f.Points) == 2 && samePoint(f.Points[0], f.Points[1]) {
		return api.ErrArg
	}
	return api.OK
}
