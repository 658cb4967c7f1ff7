package exact

import (
	"cmp"
	"math/bits"
	"strconv"
)

// mag is a magnitude: an integer that is not negative. It is word, or, only if
// a word cannot hold it, long (word is then 0). Most numbers are small, and
// need no memory of their own.
type mag struct {
	word uint64
	long nat
}

// shorten returns the magnitude of trimmed digits.
func shorten(n nat) mag {
	switch len(n) {
	case 0:
		return mag{}
	case 1:
		return mag{word: n[0]}
	}
	return mag{long: n}
}

func (a mag) digits() nat {
	if a.long != nil {
		return a.long
	}
	return nat{a.word}.trim()
}

func (a mag) isZero() bool { return a.word == 0 && a.long == nil }

func (a mag) isOne() bool { return a.word == 1 }

func (a mag) isOdd() bool {
	if a.long != nil {
		return a.long[0]&1 == 1
	}
	return a.word&1 == 1
}

func (a mag) cmp(b mag) int {
	if a.long != nil || b.long != nil {
		return a.digits().cmp(b.digits())
	}
	return cmp.Compare(a.word, b.word)
}

func (a mag) plus(b mag) mag {
	if a.long == nil && b.long == nil {
		if sum, carry := bits.Add64(a.word, b.word, 0); carry == 0 {
			return mag{word: sum}
		}
	}
	return shorten(a.digits().plus(b.digits()))
}

// minus needs a >= b.
func (a mag) minus(b mag) mag {
	if a.long == nil {
		return mag{word: a.word - b.word}
	}
	return shorten(a.long.minus(b.digits()))
}

func (a mag) times(b mag) mag {
	if a.long == nil && b.long == nil {
		if high, low := bits.Mul64(a.word, b.word); high == 0 {
			return mag{word: low}
		}
	}
	if a.isOne() {
		return b
	}
	if b.isOne() {
		return a
	}
	return shorten(a.digits().times(b.digits()))
}

// divide needs a b other than 0.
func (a mag) divide(b mag) (quotient, rest mag) {
	switch {
	case b.isOne():
		return a, mag{}
	case b.long != nil:
		q, r := a.digits().divide(b.long)
		return shorten(q), shorten(r)
	case a.long != nil:
		q, r := a.long.divideWord(b.word)
		return shorten(q), mag{word: r}
	}
	return mag{word: a.word / b.word}, mag{word: a.word % b.word}
}

// over returns the quotient, rounded down; b is not 0.
func (a mag) over(b mag) mag {
	quotient, _ := a.divide(b)
	return quotient
}

// gcd returns the greatest common divisor; that of 0 and 0 is 0.
func (a mag) gcd(b mag) mag {
	switch {
	case a.isOne() || b.isZero():
		return a
	case b.isOne() || a.isZero():
		return b
	case a.long == nil && b.long == nil:
		return mag{word: wordGcd(a.word, b.word)}
	case a.long == nil:
		return mag{word: b.long.modWord(a.word)}.gcd(a)
	case b.long == nil:
		return mag{word: a.long.modWord(b.word)}.gcd(b)
	}
	return shorten(a.long.gcd(b.long))
}

// shift returns a times 2^n.
func (a mag) shift(n int) mag { return shorten(a.digits().shift(n)) }

// bits returns the number of binary digits.
func (a mag) bits() int {
	if top := len(a.long) - 1; top > 0 {
		return top*64 + bits.Len64(a.long[top])
	}
	return bits.Len64(a.word)
}

// root returns the greatest integer whose square is at most a. Newton's method
// comes down to it from a power of 2 that is greater.
func (a mag) root() mag {
	if a.isZero() {
		return a
	}
	two := mag{word: 2}
	x := mag{word: 1}.shift((a.bits() + 1) / 2)
	for {
		y := a.over(x).plus(x).over(two)
		if y.cmp(x) >= 0 {
			return x
		}
		x = y
	}
}

// text returns the decimal digits.
func (a mag) text() string {
	if a.long != nil {
		return a.long.text()
	}
	return strconv.FormatUint(a.word, 10)
}
