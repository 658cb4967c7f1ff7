package exact

import (
	"iter"

	"amble/api"
)

// Floor returns the greatest integer that is at most a.
func (a Q) Floor() Q {
	quotient, rest := a.size.divide(a.under())
	if a.negative && !rest.isZero() {
		quotient = quotient.plus(mag{word: 1})
	}
	return whole(signed{a.negative, quotient})
}

// Ceil returns the least integer that is at least a.
func (a Q) Ceil() Q { return a.Neg().Floor().Neg() }

// Round returns the nearest integer, of two the even one.
func (a Q) Round() Q {
	low := a.Floor()
	rest := a.Sub(low)
	order := rest.Add(rest).Cmp(Int(1))
	if order > 0 || order == 0 && low.size.isOdd() {
		return low.Add(Int(1))
	}
	return low
}

// steps gives the terms of the continued fraction of a.
func (a Q) steps() iter.Seq[Q] {
	return func(yield func(Q) bool) {
		for {
			term := a.Floor()
			rest := a.Sub(term)
			if !yield(term) || rest.Sign() == 0 {
				return
			}
			a = rest.inverse()
		}
	}
}

// Near returns the number nearest to a with a denominator of at most most. It
// is one of the two neighbours of a among these numbers: the last convergent
// of the continued fraction that is allowed, and the farthest allowed step
// from the one before it.
func (a Q) Near(most int64) (Q, api.Errno) {
	if most < 1 {
		return Q{}, api.ErrRange
	}
	limit := Int(most)
	if a.Den().Cmp(limit) <= 0 {
		return a, api.OK
	}
	p, q, lastP, lastQ := Int(1), Q{}, Q{}, Int(1)
	for term := range a.steps() {
		next := lastQ.Add(term.Mul(q))
		if next.Cmp(limit) > 0 {
			break
		}
		p, q, lastP, lastQ = lastP.Add(term.Mul(p)), next, p, q
	}
	k := limit.Sub(lastQ).over(q).Floor()
	step := lastP.Add(k.Mul(p)).over(lastQ.Add(k.Mul(q)))
	return a.nearer(p.over(q), step), api.OK
}

// nearer returns the one of two numbers that is nearer to a; of equally near
// ones the one with the lesser denominator, then the lesser one.
func (a Q) nearer(x, y Q) Q {
	order := x.Sub(a).Abs().Cmp(y.Sub(a).Abs())
	if order == 0 {
		order = x.Den().Cmp(y.Den())
	}
	if order == 0 {
		order = x.Cmp(y)
	}
	if order > 0 {
		return y
	}
	return x
}

// powerOfTwo returns 2^k.
func powerOfTwo(k int) Q { return whole(signed{false, mag{word: 1}.shift(k)}) }

// floorRoot returns the greatest integer whose square is at most a, which is
// not negative. (The square of an integer is at most a exactly if it is at
// most Floor of a.)
func (a Q) floorRoot() Q { return whole(signed{false, a.Floor().size.root()}) }

// isGrade reports whether k says how fine a multiple of a power of 2 is.
func isGrade(k int) bool { return k >= 0 && k <= api.MaxFine }

// Root returns the greatest multiple of 2^-k whose square is at most a.
func (a Q) Root(k int) (Q, api.Errno) {
	if !isGrade(k) {
		return Q{}, api.ErrRange
	}
	if a.negative {
		return Q{}, api.ErrNone
	}
	fine := powerOfTwo(k)
	return a.Mul(fine).Mul(fine).floorRoot().over(fine), api.OK
}
