package exact

import "amble/api"

// exists reports whether s stands for a number.
func (s Surd) exists() bool { return s.D.Sign() >= 0 }

// square returns the square of the part with the root.
func (s Surd) square() Q { return s.B.Mul(s.B).Mul(s.D) }

// sign needs s to exist. If the two parts have different signs, the one with
// the greater square decides.
func (s Surd) sign() int {
	a, b := s.A.Sign(), s.B.Sign()*s.D.Sign()
	switch {
	case b == 0:
		return a
	case a == 0 || a == b:
		return b
	}
	return a * s.A.Mul(s.A).Cmp(s.square())
}

// Sign returns -1, 0 or 1, as s is less than 0, equal, or greater.
func (s Surd) Sign() (int, api.Errno) {
	if !s.exists() {
		return 0, api.ErrNone
	}
	return s.sign(), api.OK
}

// Cmp returns -1, 0 or 1, as s is less than t, equal, or greater.
func (s Surd) Cmp(t Surd) (int, api.Errno) {
	if !s.exists() || !t.exists() {
		return 0, api.ErrNone
	}
	return signOfSum(s.A.Sub(t.A), Surd{B: s.B, D: s.D}, Surd{B: t.B.Neg(), D: t.D}), api.OK
}

// signOfSum returns the sign of a and two roots without other parts. The roots
// are compared first, each by its square; if their sum and a have different
// signs, the squares of these are compared, in which only one root is left.
func signOfSum(a Q, s, t Surd) int {
	roots := s.sign()
	switch other := t.sign(); {
	case roots == 0:
		roots = other
	case other == -roots:
		roots *= s.square().Cmp(t.square())
	}
	switch {
	case roots == 0:
		return a.Sign()
	case a.Sign() == 0 || a.Sign() == roots:
		return roots
	}
	mixed := s.B.Mul(t.B)
	difference := Surd{
		A: a.Mul(a).Sub(s.square()).Sub(t.square()),
		B: mixed.Add(mixed).Neg(),
		D: s.D.Mul(t.D),
	}
	return a.Sign() * difference.sign()
}

// exactRoot returns the root of a number that is not negative; false: it is
// not rational.
func (a Q) exactRoot() (Q, bool) {
	top, bottom := a.size.root(), a.under().root()
	if top.times(top).cmp(a.size) != 0 || bottom.times(bottom).cmp(a.under()) != 0 {
		return Q{}, false
	}
	return lowest(signed{false, top}, bottom), true
}

// Normal returns s without a root if it is rational for a simple reason, and
// otherwise with an integer below the root.
func (s Surd) Normal() (Surd, api.Errno) {
	if !s.exists() {
		return Surd{}, api.ErrNone
	}
	if s.B.Sign() == 0 {
		return Surd{A: s.A}, api.OK
	}
	if root, ok := s.D.exactRoot(); ok {
		return Surd{A: s.A.Add(s.B.Mul(root))}, api.OK
	}
	return Surd{s.A, s.B.over(s.D.Den()), s.D.Num().Mul(s.D.Den())}, api.OK
}

// floor returns the greatest integer that is at most s, which exists. With A
// as p/q this is that of p + q B √D, rounded down, divided by q.
func (s Surd) floor() Q {
	p, q := s.A.Num(), s.A.Den()
	square := s.square().Mul(q).Mul(q)
	root := square.floorRoot()
	if s.B.Sign() < 0 {
		if root.Mul(root).Cmp(square) != 0 {
			root = root.Add(Int(1))
		}
		root = root.Neg()
	}
	return p.Add(root).over(q).Floor()
}

// scale returns k times s.
func (s Surd) scale(k Q) Surd { return Surd{s.A.Mul(k), s.B.Mul(k), s.D} }

// Enclose returns the greatest multiple of 2^-k that is at most s, and the
// least one that is at least s.
func (s Surd) Enclose(k int) (low, high Q, e api.Errno) {
	if !s.exists() {
		return Q{}, Q{}, api.ErrNone
	}
	if !isGrade(k) {
		return Q{}, Q{}, api.ErrRange
	}
	fine := powerOfTwo(k)
	low = s.scale(fine).floor().over(fine)
	high = s.scale(fine.Neg()).floor().over(fine.Neg())
	return low, high, api.OK
}

// Roots returns the real roots of a x² + b x + c, rising, each once, in normal
// form.
func Roots(a, b, c Q) ([]Surd, api.Errno) {
	if a.Sign() == 0 {
		return rootsOfLine(b, c)
	}
	double := a.Add(a)
	middle := b.Neg().over(double)
	under := b.Mul(b).Sub(double.Mul(c).Mul(Int(2)))
	if under.Sign() < 0 {
		return nil, api.OK
	}
	if under.Sign() == 0 {
		return []Surd{{A: middle}}, api.OK
	}
	half := double.inverse().Abs()
	low, _ := Surd{middle, half.Neg(), under}.Normal()
	high, _ := Surd{middle, half, under}.Normal()
	return []Surd{low, high}, api.OK
}

// rootsOfLine returns the roots of b x + c.
func rootsOfLine(b, c Q) ([]Surd, api.Errno) {
	if b.Sign() != 0 {
		return []Surd{{A: c.Neg().over(b)}}, api.OK
	}
	if c.Sign() == 0 {
		return nil, api.ErrMany
	}
	return nil, api.OK
}
