package pose

import "amble/exact"

// field computes with numbers A + B √D that all have the same D, which is 0 or
// no square of a rational. With a D of 0 all B are 0.
type field struct{ d exact.Q }

// operation is one of a field.
type operation func(s, t exact.Surd) exact.Surd

func rational(q exact.Q) exact.Surd { return exact.Surd{A: q} }

func (f field) plus(s, t exact.Surd) exact.Surd {
	return exact.Surd{A: s.A.Add(t.A), B: s.B.Add(t.B), D: f.d}
}

func (f field) minus(s, t exact.Surd) exact.Surd {
	return exact.Surd{A: s.A.Sub(t.A), B: s.B.Sub(t.B), D: f.d}
}

func (f field) times(s, t exact.Surd) exact.Surd {
	a := s.A.Mul(t.A).Add(s.B.Mul(t.B).Mul(f.d))
	return exact.Surd{A: a, B: s.A.Mul(t.B).Add(s.B.Mul(t.A)), D: f.d}
}

// over returns s / t; t is not 0. With the other sign of the root in t, their
// product is rational.
func (f field) over(s, t exact.Surd) exact.Surd {
	t.B = t.B.Neg()
	under := t.A.Mul(t.A).Sub(t.B.Mul(t.B).Mul(f.d))
	top := f.times(s, t)
	return exact.Surd{A: over(top.A, under), B: over(top.B, under), D: f.d}
}

// spot is a point, or the cosine and the sine of a rotation, of such numbers.
type spot struct{ x, z exact.Surd }

func spotOf(p exact.Point) spot { return spot{rational(p.X), rational(p.Z)} }

func (s spot) swapped() spot { return spot{s.z, s.x} }

// each returns the spot of what an operation gives for the numbers of two.
func each(s, t spot, give operation) spot { return spot{give(s.x, t.x), give(s.z, t.z)} }

// fold joins what an operation gives for the numbers of two spots.
func fold(s, t spot, give, join operation) exact.Surd {
	both := each(s, t, give)
	return join(both.x, both.z)
}

func (f field) dot(s, t spot) exact.Surd { return fold(s, t, f.times, f.plus) }

func (f field) cross(s, t spot) exact.Surd { return fold(s, t.swapped(), f.times, f.minus) }

// turn returns a spot turned by a rotation.
func (f field) turn(s, rotation spot) spot {
	return spot{fold(rotation, s, f.times, f.minus), fold(rotation, s.swapped(), f.times, f.plus)}
}

// rotation returns the one with a half tangent.
func (f field) rotation(tangent exact.Surd) spot {
	one := rational(exact.Int(1))
	square := f.times(tangent, tangent)
	under := f.plus(one, square)
	return spot{f.over(f.minus(one, square), under), f.over(f.plus(tangent, tangent), under)}
}
