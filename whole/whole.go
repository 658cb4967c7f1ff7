// Package whole has integers of any size, which are quick as long as they are
// small. Layers that compute a lot with integers use it; exact.Q takes over
// where an integer becomes great.
package whole

import (
	"cmp"
	"math"
	"math/bits"

	"amble/exact"
)

// Int is an integer; the zero Int is 0. It is in small, or, only if it does
// not fit, in large. The least int64 counts as one that does not fit, so that
// each small one has a small negative.
type Int struct {
	small int64
	large *exact.Q
}

// Of returns n.
func Of(n int64) Int { return From(exact.Int(n)) }

// From returns the integer of a number that is one.
func From(q exact.Q) Int {
	if n, ok := q.Int64(); ok && n != math.MinInt64 {
		return Int{small: n}
	}
	return Int{large: &q}
}

// Q returns the number.
func (a Int) Q() exact.Q {
	if a.large != nil {
		return *a.large
	}
	return exact.Int(a.small)
}

// Sign returns -1, 0 or 1, as a is less than 0, equal, or greater.
func (a Int) Sign() int {
	if a.large != nil {
		return a.large.Sign()
	}
	return cmp.Compare(a.small, 0)
}

// IsOne reports whether a is 1.
func (a Int) IsOne() bool { return a.small == 1 }

// Cmp returns -1, 0 or 1, as a is less than b, equal, or greater.
func (a Int) Cmp(b Int) int {
	if a.large == nil && b.large == nil {
		return cmp.Compare(a.small, b.small)
	}
	return a.Q().Cmp(b.Q())
}

// Neg returns -a.
func (a Int) Neg() Int {
	if a.large != nil {
		return From(a.large.Neg())
	}
	return Int{small: -a.small}
}

// Abs returns the absolute value of a.
func (a Int) Abs() Int {
	if a.Sign() < 0 {
		return a.Neg()
	}
	return a
}

// Add returns a + b.
func (a Int) Add(b Int) Int {
	if a.large == nil && b.large == nil {
		sum := a.small + b.small
		if (sum > a.small) == (b.small > 0) && sum != math.MinInt64 {
			return Int{small: sum}
		}
	}
	return From(a.Q().Add(b.Q()))
}

// size returns the absolute value of a small integer.
func size(n int64) uint64 {
	if n < 0 {
		return uint64(-n)
	}
	return uint64(n)
}

// Mul returns a times b.
func (a Int) Mul(b Int) Int {
	if a.large == nil && b.large == nil {
		high, low := bits.Mul64(size(a.small), size(b.small))
		if high == 0 && low < 1<<63 {
			return Int{small: a.small * b.small}
		}
	}
	return From(a.Q().Mul(b.Q()))
}

// Over returns a divided by b, which is not 0 and divides it.
func (a Int) Over(b Int) Int {
	if a.large == nil && b.large == nil {
		return Int{small: a.small / b.small}
	}
	quotient, _ := a.Q().Div(b.Q())
	return From(quotient)
}

// Gcd returns the greatest common divisor of a and b; that of 0 and 0 is 0.
func (a Int) Gcd(b Int) Int {
	if b.Sign() == 0 {
		return a.Abs()
	}
	if a.large == nil && b.large == nil {
		x, y := size(a.small), size(b.small)
		for y != 0 {
			x, y = y, x%y
		}
		return Int{small: int64(x)}
	}
	// In lowest terms the denominator of a / b is b without what it has in
	// common with a.
	ratio, _ := a.Q().Div(b.Q())
	return b.Over(From(ratio.Den())).Abs()
}

// Dot returns the sum of the products of the integers of a with those of b,
// which are as many.
func Dot(a, b []Int) Int {
	var sum Int
	for i := range a {
		if a[i].Sign() != 0 && b[i].Sign() != 0 {
			sum = sum.Add(a[i].Mul(b[i]))
		}
	}
	return sum
}
