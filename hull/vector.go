package hull

import (
	"amble/exact"
	"amble/whole"
)

// vec is a list of integers. Points, directions and rows are computed with as
// such: a point gets one more number t, by which the others are divided, a
// direction the number 0, and the row A <= B the number -B, so that its
// product with a point is at most 0 if it is true, and with a direction tells
// whether one moves towards it.
type vec []whole.Int

// unitVec returns the vector of n numbers that has 1 at the place i.
func unitVec(n, i int) vec {
	v := make(vec, n)
	v[i] = whole.Of(1)
	return v
}

// vecOf returns the primitive vector of a list, and the factor, above 0, by
// which the list is multiplied.
func vecOf(l []exact.Q) (vec, exact.Q) {
	divisor := common(l)
	v := make(vec, len(l))
	for i, a := range divided(l, divisor) {
		v[i] = whole.From(a)
	}
	return v, over(exact.Int(1), divisor)
}

// vecOfRow returns the primitive vector of a row, and its factor.
func vecOfRow(r Row) (vec, exact.Q) {
	n := len(r.A)
	return vecOf(append(r.A[:n:n], r.B.Neg()))
}

// list returns the numbers of v.
func (v vec) list() []exact.Q {
	l := make([]exact.Q, len(v))
	for i := range v {
		l[i] = v[i].Q()
	}
	return l
}

// point returns the point that v stands for.
func (v vec) point() []exact.Q {
	n := len(v) - 1
	return divided(v[:n:n].list(), v[n].Q())
}

// isZero reports whether all numbers of v are 0.
func (v vec) isZero() bool {
	for i := range v {
		if v[i].Sign() != 0 {
			return false
		}
	}
	return true
}

// isEmpty reports whether v is a row without anything on its left side.
func (v vec) isEmpty() bool {
	n := len(v) - 1
	return v[:n:n].isZero()
}

// equal reports whether two vectors, which are equally long, are the same.
func (v vec) equal(w vec) bool {
	for i := range v {
		if v[i].Cmp(w[i]) != 0 {
			return false
		}
	}
	return true
}

func (v vec) dot(w vec) whole.Int { return whole.Dot(v, w) }

func (v vec) negated() vec {
	w := make(vec, len(v))
	for i := range v {
		w[i] = v[i].Neg()
	}
	return w
}

// without returns a new vector, without the number at the place i.
func (v vec) without(i int) vec { return append(v[:i:i], v[i+1:]...) }

// with returns a new vector that has one more number, at the place i.
func (v vec) with(i int, a whole.Int) vec {
	return append(append(v[:i:i], a), v[i:]...)
}

// primitive returns the primitive multiple of v; v itself if it is 0.
func (v vec) primitive() vec {
	var divisor whole.Int
	for i := 0; i < len(v) && !divisor.IsOne(); i++ {
		divisor = divisor.Gcd(v[i])
	}
	if divisor.IsOne() || divisor.Sign() == 0 {
		return v
	}
	w := make(vec, len(v))
	for i := range v {
		w[i] = v[i].Over(divisor)
	}
	return w
}

// combine returns the primitive multiple of k v + l w.
func combine(k whole.Int, v vec, l whole.Int, w vec) vec {
	sum := make(vec, len(v))
	for i := range sum {
		sum[i] = k.Mul(v[i]).Add(l.Mul(w[i]))
	}
	return sum.primitive()
}

// leveller returns what adds to a positive multiple of a vector so much of
// along that the row is 0 on the sum. The row is not 0 on along.
func leveller(row, along vec) func(vec) vec {
	slope := row.dot(along)
	return func(v vec) vec {
		value := row.dot(v)
		if value.Sign() == 0 {
			return v
		}
		if slope.Sign() > 0 {
			value = value.Neg()
		}
		return combine(slope.Abs(), v, value, along)
	}
}
