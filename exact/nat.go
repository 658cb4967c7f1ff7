package exact

import (
	"cmp"
	"math/bits"
	"strconv"
	"strings"
)

// nat is a magnitude of any size: digits to the base 2^64, the lowest first.
// It is trimmed: its last digit is not 0.
type nat []uint64

// chunk is the number of decimal digits that one digit of a nat always holds,
// and chunkBase is 10 to this power.
const (
	chunk     = 19
	chunkBase = 10_000_000_000_000_000_000
)

// length returns the number of digits without the zeros at the high end.
func (a nat) length() int {
	n := len(a)
	for n > 0 && a[n-1] == 0 {
		n--
	}
	return n
}

// trim cuts the zeros at the high end. The capacity is cut too, so that no
// other magnitude can ever grow into the memory behind it.
func (a nat) trim() nat {
	n := a.length()
	return a[:n:n]
}

// at returns the digit with the index i, 0 beyond the highest one.
func (a nat) at(i int) uint64 {
	if i < len(a) {
		return a[i]
	}
	return 0
}

func (a nat) cmp(b nat) int {
	order := cmp.Compare(len(a), len(b))
	for i := len(a) - 1; i >= 0 && order == 0; i-- {
		order = cmp.Compare(a[i], b[i])
	}
	return order
}

// increase adds b to a, in place, and returns the carry. It needs a to have as
// many digits as b at least.
func (a nat) increase(b nat) uint64 {
	carry := uint64(0)
	for i := range b {
		a[i], carry = bits.Add64(a[i], b[i], carry)
	}
	for i := len(b); i < len(a) && carry != 0; i++ {
		a[i], carry = bits.Add64(a[i], 0, carry)
	}
	return carry
}

// decrease subtracts b from a, in place. It needs a >= b.
func (a nat) decrease(b nat) {
	borrow := uint64(0)
	for i := range b {
		a[i], borrow = bits.Sub64(a[i], b[i], borrow)
	}
	for i := len(b); i < len(a) && borrow != 0; i++ {
		a[i], borrow = bits.Sub64(a[i], 0, borrow)
	}
}

// increaseTimes adds k times b to the first digits of a, in place, and returns
// the digit that is carried.
func (a nat) increaseTimes(b nat, k uint64) uint64 {
	carry, c := uint64(0), uint64(0)
	for i := range b {
		high, low := bits.Mul64(b[i], k)
		low, c = bits.Add64(low, carry, 0)
		high += c
		a[i], c = bits.Add64(a[i], low, 0)
		carry = high + c
	}
	return carry
}

// decreaseTimes subtracts k times b from the first digits of a, in place, and
// returns the digit that is borrowed.
func (a nat) decreaseTimes(b nat, k uint64) uint64 {
	borrow, c := uint64(0), uint64(0)
	for i := range b {
		high, low := bits.Mul64(b[i], k)
		low, c = bits.Add64(low, borrow, 0)
		high += c
		a[i], c = bits.Sub64(a[i], low, 0)
		borrow = high + c
	}
	return borrow
}

func (a nat) plus(b nat) nat {
	if len(a) < len(b) {
		a, b = b, a
	}
	sum := make(nat, len(a)+1)
	copy(sum, a)
	sum.increase(b)
	return sum.trim()
}

// minus needs a >= b.
func (a nat) minus(b nat) nat {
	rest := make(nat, len(a))
	copy(rest, a)
	rest.decrease(b)
	return rest.trim()
}

func (a nat) times(b nat) nat {
	product := make(nat, len(a)+len(b))
	for i := range b {
		product[i+len(a)] = product[i:].increaseTimes(a, b[i])
	}
	return product.trim()
}

// raise multiplies a by 2^n, in place; n is from 0 to 63. It needs a digit at
// least, and room for the result.
func (a nat) raise(n uint) {
	for i := len(a) - 1; i > 0; i-- {
		a[i] = a[i]<<n | a[i-1]>>(64-n)
	}
	a[0] <<= n
}

// lower divides a by 2^n, in place, rounding down; n is from 0 to 63.
func (a nat) lower(n uint) {
	for i := range a {
		a[i] = a[i]>>n | a.at(i+1)<<(64-n)
	}
}

// shift returns a times 2^n.
func (a nat) shift(n int) nat {
	shifted := make(nat, n/64+len(a)+1)
	copy(shifted[n/64:], a)
	shifted.raise(uint(n % 64))
	return shifted.trim()
}

// split divides a by d, in place, and returns the rest; d is not 0.
func (a nat) split(d uint64) uint64 {
	rest := uint64(0)
	for i := len(a) - 1; i >= 0; i-- {
		a[i], rest = bits.Div64(rest, a[i], d)
	}
	return rest
}

// divideWord needs a d other than 0.
func (a nat) divideWord(d uint64) (nat, uint64) {
	quotient := make(nat, len(a))
	copy(quotient, a)
	rest := quotient.split(d)
	return quotient.trim(), rest
}

// modWord needs a d other than 0.
func (a nat) modWord(d uint64) uint64 {
	rest := uint64(0)
	for i := len(a) - 1; i >= 0; i-- {
		rest = bits.Rem64(rest, a[i], d)
	}
	return rest
}

// divide returns the quotient and the rest of a by b, which needs two digits
// at least. This is the division by hand: each digit of the quotient is
// guessed from the highest digits, after both numbers are shifted so that the
// guess is at most 1 too great.
func (a nat) divide(b nat) (quotient, rest nat) {
	if a.cmp(b) < 0 {
		return nil, a
	}
	n := len(b)
	shift := uint(bits.LeadingZeros64(b[n-1]))
	left, by := make(nat, len(a)+1), make(nat, n)
	copy(left, a)
	copy(by, b)
	left.raise(shift)
	by.raise(shift)
	quotient = make(nat, len(a)-n+1)
	for i := len(quotient) - 1; i >= 0; i-- {
		part := left[i : i+n+1 : i+n+1]
		digit := guess(part[n], part[n-1], part[n-2], by[n-1], by[n-2])
		borrow := part.decreaseTimes(by, digit)
		if part[n] < borrow {
			digit--
			borrow -= part[:n:n].increase(by)
		}
		part[n] -= borrow
		quotient[i] = digit
	}
	left.lower(shift)
	return quotient.trim(), left.trim()
}

// guess returns the quotient of the number with the digits high, middle, low
// by the one with the digits by, next; the highest digit if it is no digit.
func guess(high, middle, low, by, next uint64) uint64 {
	if high >= by {
		return 1<<64 - 1
	}
	digit, rest := bits.Div64(high, middle, by)
	for {
		over, under := bits.Mul64(digit, next)
		if over < rest || over == rest && under <= low {
			return digit
		}
		digit--
		sum, carry := bits.Add64(rest, by, 0)
		if carry != 0 {
			return digit
		}
		rest = sum
	}
}

// text returns the decimal digits of a, which is not 0.
func (a nat) text() string {
	left := make(nat, len(a))
	copy(left, a)
	var parts []string
	for len(left) > 0 {
		parts = append(parts, strconv.FormatUint(left.split(chunkBase), 10))
		left = left.trim()
	}
	last := len(parts) - 1
	var b strings.Builder
	b.WriteString(parts[last])
	for i := last - 1; i >= 0; i-- {
		b.WriteString(strings.Repeat("0", chunk-len(parts[i])))
		b.WriteString(parts[i])
	}
	return b.String()
}
