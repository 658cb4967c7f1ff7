package hull

import "amble/exact"

// dot returns the sum of the products of the numbers of a with those of b,
// which are as many.
func dot(a, b []exact.Q) exact.Q {
	var sum exact.Q
	for i := range a {
		sum = sum.Add(a[i].Mul(b[i]))
	}
	return sum
}

// addTimes adds k times b to a, in place.
func addTimes(a []exact.Q, k exact.Q, b []exact.Q) {
	if k.Sign() == 0 {
		return
	}
	for i := range a {
		a[i] = a[i].Add(k.Mul(b[i]))
	}
}

// over returns a divided by b, which is not 0.
func over(a, b exact.Q) exact.Q {
	quotient, _ := a.Div(b)
	return quotient
}

// divided returns the numbers of l, each divided by b, which is not 0.
func divided(l []exact.Q, b exact.Q) []exact.Q {
	fresh := make([]exact.Q, len(l))
	for i := range l {
		fresh[i] = over(l[i], b)
	}
	return fresh
}

// clone returns a new list with the numbers of l.
func clone(l []exact.Q) []exact.Q {
	fresh := make([]exact.Q, len(l))
	copy(fresh, l)
	return fresh
}

func negated(l []exact.Q) []exact.Q {
	fresh := make([]exact.Q, len(l))
	for i := range l {
		fresh[i] = l[i].Neg()
	}
	return fresh
}

func isZero(l []exact.Q) bool {
	for _, a := range l {
		if a.Sign() != 0 {
			return false
		}
	}
	return true
}

// compare compares two lists, which are equally long, number by number.
func compare(a, b []exact.Q) int {
	for i := range a {
		if order := a[i].Cmp(b[i]); order != 0 {
			return order
		}
	}
	return 0
}

// areWeights reports whether l has n numbers, none below 0.
func areWeights(l []exact.Q, n int) bool {
	for _, a := range l {
		if a.Sign() < 0 {
			return false
		}
	}
	return len(l) == n
}

// common returns the greatest number of which all numbers of l are integer
// multiples; 1 if all of them are 0.
func common(l []exact.Q) exact.Q {
	var sum exact.Q
	for _, a := range l {
		switch {
		case sum.Sign() == 0:
			sum = a.Abs()
		case a.Sign() != 0:
			sum = over(sum, over(a, sum).Den())
		}
	}
	if sum.Sign() == 0 {
		return exact.Int(1)
	}
	return sum
}

// primitive returns the positive multiple of l that is primitive; l itself if
// it is 0.
func primitive(l []exact.Q) []exact.Q {
	return divided(l, common(l))
}
