package exact

import (
	"cmp"

	"amble/api"
)

// signed is an integer: its sign and its size. 0 is not negative.
type signed struct {
	negative bool
	size     mag
}

func (a signed) sign() int {
	switch {
	case a.negative:
		return -1
	case a.size.isZero():
		return 0
	}
	return 1
}

func addSigned(a, b signed) signed {
	if a.negative == b.negative {
		return signed{a.negative, a.size.plus(b.size)}
	}
	switch a.size.cmp(b.size) {
	case 1:
		return signed{a.negative, a.size.minus(b.size)}
	case -1:
		return signed{b.negative, b.size.minus(a.size)}
	}
	return signed{}
}

// whole returns the number of an integer.
func whole(a signed) Q { return Q{signed: a} }

// lowest returns the number of a fraction that is in lowest terms.
func lowest(numerator signed, denominator mag) Q {
	if numerator.size.isZero() {
		return Q{}
	}
	if denominator.isOne() {
		return whole(numerator)
	}
	return Q{numerator, denominator}
}

// reduced returns the number of any fraction; the denominator is not 0.
func reduced(numerator signed, denominator mag) Q {
	g := numerator.size.gcd(denominator)
	return lowest(signed{numerator.negative, numerator.size.over(g)}, denominator.over(g))
}

// isWhole reports whether the denominator is 1.
func (a Q) isWhole() bool { return a.den.isZero() }

// under returns the denominator.
func (a Q) under() mag {
	if a.isWhole() {
		return mag{word: 1}
	}
	return a.den
}

// integer returns n with its sign apart; the size of the least int64 is that
// of its unsigned value.
func integer(n int64) signed {
	if n < 0 {
		return signed{true, mag{word: -uint64(n)}}
	}
	return signed{false, mag{word: uint64(n)}}
}

// Int returns n.
func Int(n int64) Q { return whole(integer(n)) }

// Of returns n/d.
func Of(n, d int64) (Q, api.Errno) {
	if d == 0 {
		return Q{}, api.ErrZero
	}
	top, bottom := integer(n), integer(d)
	top.negative = n != 0 && top.negative != bottom.negative
	return reduced(top, bottom.size), api.OK
}

// Add returns a + b. Only what the denominators have in common can be common
// to the numerator and the denominator of the sum.
func (a Q) Add(b Q) Q {
	if a.Sign() == 0 {
		return b
	}
	if b.Sign() == 0 {
		return a
	}
	if a.isWhole() && b.isWhole() {
		return whole(addSigned(a.signed, b.signed))
	}
	common := a.under().gcd(b.under())
	left, right := a.under().over(common), b.under().over(common)
	sum := addSigned(
		signed{a.negative, a.size.times(right)},
		signed{b.negative, b.size.times(left)},
	)
	g := sum.size.gcd(common)
	return lowest(signed{sum.negative, sum.size.over(g)}, left.times(b.under().over(g)))
}

// Sub returns a - b.
func (a Q) Sub(b Q) Q { return a.Add(b.Neg()) }

// Mul returns a times b. Each numerator can have something in common only with
// the denominator of the other number.
func (a Q) Mul(b Q) Q {
	if a.Sign() == 0 || b.Sign() == 0 {
		return Q{}
	}
	g, h := a.size.gcd(b.under()), b.size.gcd(a.under())
	size := a.size.over(g).times(b.size.over(h))
	return lowest(signed{a.negative != b.negative, size}, a.under().over(h).times(b.under().over(g)))
}

// inverse returns 1/a; a is not 0.
func (a Q) inverse() Q { return lowest(signed{a.negative, a.under()}, a.size) }

// over returns a divided by b, which is not 0.
func (a Q) over(b Q) Q { return a.Mul(b.inverse()) }

// Div returns a divided by b.
func (a Q) Div(b Q) (Q, api.Errno) {
	if b.Sign() == 0 {
		return Q{}, api.ErrZero
	}
	return a.over(b), api.OK
}

// Neg returns -a.
func (a Q) Neg() Q {
	a.negative = !a.negative && !a.size.isZero()
	return a
}

// Abs returns the absolute value of a.
func (a Q) Abs() Q {
	a.negative = false
	return a
}

// Cmp returns -1, 0 or 1, as a is less than b, equal, or greater.
func (a Q) Cmp(b Q) int {
	if s, t := a.sign(), b.sign(); s != t {
		return cmp.Compare(s, t)
	}
	order := a.size.times(b.under()).cmp(b.size.times(a.under()))
	if a.negative {
		return -order
	}
	return order
}

// Sign returns -1, 0 or 1, as a is less than 0, equal, or greater.
func (a Q) Sign() int { return a.sign() }

// Num returns the numerator.
func (a Q) Num() Q { return whole(a.signed) }

// Den returns the denominator.
func (a Q) Den() Q { return whole(signed{false, a.under()}) }

// Int64 returns a as an int64; false: it is none.
func (a Q) Int64() (int64, bool) {
	if !a.isWhole() || a.size.long != nil {
		return 0, false
	}
	n := int64(a.size.word)
	if a.negative {
		n = -n
	}
	if n < 0 != a.negative {
		return 0, false
	}
	return n, true
}

// Bits returns how many binary digits the numerator and the denominator have
// together.
func (a Q) Bits() int { return a.size.bits() + a.under().bits() }

// extreme returns the number whose Cmp with each other one is order, or 0; the
// first of these, and 0 if there are no numbers.
func extreme(l []Q, order int) Q {
	var best Q
	for i, a := range l {
		if i == 0 || a.Cmp(best) == order {
			best = a
		}
	}
	return best
}

// Min returns the least of the numbers, 0 if there are none.
func Min(l ...Q) Q { return extreme(l, -1) }

// Max returns the greatest of the numbers, 0 if there are none.
func Max(l ...Q) Q { return extreme(l, 1) }

// Sum returns the sum of the numbers, 0 if there are none.
func Sum(l ...Q) Q {
	var sum Q
	for _, a := range l {
		sum = sum.Add(a)
	}
	return sum
}
