package exact

// Add returns p + q.
func (p Point) Add(q Point) Point { return Point{p.X.Add(q.X), p.Z.Add(q.Z)} }

// Sub returns p - q.
func (p Point) Sub(q Point) Point { return Point{p.X.Sub(q.X), p.Z.Sub(q.Z)} }

// Scale returns k times p.
func (p Point) Scale(k Q) Point { return Point{p.X.Mul(k), p.Z.Mul(k)} }

// Dot returns X X' + Z Z'.
func (p Point) Dot(q Point) Q { return p.X.Mul(q.X).Add(p.Z.Mul(q.Z)) }

// Cross returns X Z' - Z X'.
func (p Point) Cross(q Point) Q { return p.X.Mul(q.Z).Sub(p.Z.Mul(q.X)) }

// Turn returns p turned by r around 0.
func (p Point) Turn(r Rot) Point {
	return Point{r.C.Mul(p.X).Sub(r.S.Mul(p.Z)), r.S.Mul(p.X).Add(r.C.Mul(p.Z))}
}

// Turn returns the rotation with the half tangent t.
func Turn(t Q) Rot {
	square := t.Mul(t)
	under := Int(1).Add(square)
	return Rot{Int(1).Sub(square).over(under), t.Add(t).over(under)}
}

// Then returns the rotation by a and then by b.
func (a Rot) Then(b Rot) Rot {
	return Rot{a.C.Mul(b.C).Sub(a.S.Mul(b.S)), a.S.Mul(b.C).Add(a.C.Mul(b.S))}
}

// Back returns the rotation that undoes a.
func (a Rot) Back() Rot { return Rot{a.C, a.S.Neg()} }

// Half returns the half tangent of a; false: it has none.
func (a Rot) Half() (Q, bool) {
	under := Int(1).Add(a.C)
	if under.Sign() == 0 {
		return Q{}, false
	}
	return a.S.over(under), true
}

// Valid reports whether C² + S² = 1.
func (a Rot) Valid() bool { return a.C.Mul(a.C).Add(a.S.Mul(a.S)).Cmp(Int(1)) == 0 }
