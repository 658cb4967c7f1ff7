package exact

import "math/bits"

// wordGcd returns the greatest common divisor of two words, neither of which
// is 0: odd numbers are subtracted from each other, and halved.
func wordGcd(a, b uint64) uint64 {
	twos := bits.TrailingZeros64(a | b)
	a >>= uint(bits.TrailingZeros64(a))
	for b != 0 {
		b >>= uint(bits.TrailingZeros64(b))
		if a > b {
			a, b = b, a
		}
		b -= a
	}
	return a << uint(twos)
}

// descent is what Euclid's algorithm has reached: a is not less than b, and
// nextA and nextB are room for the next two numbers.
type descent struct{ a, b, nextA, nextB nat }

// cofactors stand for several steps of Euclid's algorithm: they lead from a
// and b to fromA a - fromB b and toB b - toA a, or, if odd is set, to the
// negatives of both.
type cofactors struct {
	fromA, fromB, toA, toB uint64
	odd                    bool
}

// gcd returns the greatest common divisor of a and b, which have two digits at
// least. It follows Lehmer: most steps are found from the highest digits
// alone, and carried out on the long numbers all at once.
func (a nat) gcd(b nat) nat {
	if a.cmp(b) < 0 {
		a, b = b, a
	}
	n := len(a)
	room := make(nat, 4*n)
	d := descent{room[0:n:n], room[n : n+len(b) : 2*n], room[2*n : 3*n : 3*n], room[3*n : 4*n : 4*n]}
	copy(d.a, a)
	copy(d.b, b)
	for len(d.b) > 1 {
		if c := d.simulate(); c.fromB == 0 {
			d.divide()
		} else {
			d.follow(c)
		}
	}
	if len(d.b) == 0 {
		return d.a.trim()
	}
	rest := d.a.modWord(d.b[0])
	if rest == 0 {
		return nat{d.b[0]}
	}
	return nat{wordGcd(rest, d.b[0])}
}

// simulate runs Euclid's algorithm on the 64 highest binary digits of a and on
// those of b that stand at the same places, as long as it is certain that the
// quotients are those of the long numbers (Collins' condition).
func (d *descent) simulate() cofactors {
	n := len(d.a)
	shift := uint(bits.LeadingZeros64(d.a[n-1]))
	x, y := d.a.window(n, shift), d.b.window(n, shift)
	c := cofactors{fromA: 0, fromB: 0, toA: 1, toB: 0, odd: true}
	nextA, nextB := uint64(0), uint64(1)
	for y >= nextB && x-y >= c.toB+nextB {
		q := x / y
		x, y = y, x%y
		c = cofactors{c.toA, c.toB, nextA, nextB, !c.odd}
		nextA, nextB = c.fromA+q*c.toA, c.fromB+q*c.toB
	}
	return c
}

// window returns the 64 binary digits that stand shift places below the top of
// a number of n digits, of which a may lack some.
func (a nat) window(n int, shift uint) uint64 {
	return a.at(n-1)<<shift | a.at(n-2)>>(64-shift)
}

// divide does one step on the long numbers.
func (d *descent) divide() {
	_, rest := d.a.divide(d.b)
	b := d.nextA[:len(rest)]
	copy(b, rest)
	d.a, d.b, d.nextA = d.b, b, d.a
}

// follow does the steps that c stands for on the long numbers.
func (d *descent) follow(c cofactors) {
	var a, b nat
	if c.odd {
		a = d.nextA.difference(d.b, c.fromB, d.a, c.fromA)
		b = d.nextB.difference(d.a, c.toA, d.b, c.toB)
	} else {
		a = d.nextA.difference(d.a, c.fromA, d.b, c.fromB)
		b = d.nextB.difference(d.b, c.toB, d.a, c.toA)
	}
	d.a, d.b, d.nextA, d.nextB = a, b, d.a, d.b
}

// difference returns p x - q y, which is not negative, in the memory of into.
func (into nat) difference(x nat, p uint64, y nat, q uint64) nat {
	into = into[:max(len(x), len(y))]
	carry, borrow, c := uint64(0), uint64(0), uint64(0)
	for i := range into {
		high, low := bits.Mul64(x.at(i), p)
		low, c = bits.Add64(low, carry, 0)
		carry = high + c
		over, under := bits.Mul64(y.at(i), q)
		under, c = bits.Add64(under, borrow, 0)
		over += c
		into[i], c = bits.Sub64(low, under, 0)
		borrow = over + c
	}
	return into[:into.length()]
}
