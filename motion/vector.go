package motion

import "amble/exact"

// over returns a / b; b is not 0.
func over(a, b exact.Q) exact.Q {
	quotient, _ := a.Div(b)
	return quotient
}

func half(q exact.Q) exact.Q { return over(q, exact.Int(2)) }

func square(p exact.Point) exact.Q { return p.Dot(p) }
