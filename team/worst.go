package team

import (
	"slices"

	"amble/api"
	"amble/exact"
)

// Spread returns the greatest of the numbers less the least.
func Spread(x []exact.Q) exact.Q { return exact.Max(x...).Sub(exact.Min(x...)) }

// apart returns the sum of the absolute differences of two rows.
func apart(a, b []exact.Q) exact.Q {
	var sum exact.Q
	for i := range a {
		sum = sum.Add(a[i].Sub(b[i]).Abs())
	}
	return sum
}

// coefficient returns that of a valid matrix.
func coefficient(m exact.Mat) exact.Q {
	var most exact.Q
	for i := range len(m) {
		for k := range i {
			most = exact.Max(most, apart(m[i], m[k]))
		}
	}
	return over(most, exact.Int(2))
}

// Coefficient returns half of the greatest sum of the absolute differences of
// two rows.
func Coefficient(m exact.Mat) (exact.Q, api.Errno) {
	isOther := func(row []exact.Q) bool { return len(row) != len(m[0]) }
	if slices.ContainsFunc(m, isOther) {
		return exact.Q{}, api.ErrArg
	}
	return coefficient(m), api.OK
}

// losable returns all sets of at most so many of a net's links, in order; no
// more of them once there are more than MaxTries.
func losable(links, losses int) [][]int {
	sets := [][]int{nil}
	for link := range links {
		if len(sets) > api.MaxTries {
			break
		}
		for _, set := range sets {
			if len(set) < losses {
				sets = append(sets, append(slices.Clone(set), link))
			}
		}
	}
	return sets
}

// areMany reports whether there are more patterns than are tried.
func areMany(sets [][]int, rounds int) bool {
	tries := 1
	for range rounds {
		tries *= len(sets)
		if tries > api.MaxTries {
			return true
		}
	}
	return false
}

// pattern is the sets of links that are lost in some rounds, with the
// coefficient of the product of their matrices.
type pattern struct {
	lost        [][]int
	coefficient exact.Q
}

// multiple returns a matrix times a number.
func multiple(m exact.Mat, k exact.Q) exact.Mat {
	var product exact.Mat
	for _, row := range m {
		var l []exact.Q
		for _, q := range row {
			l = append(l, q.Mul(k))
		}
		product = append(product, l)
	}
	return product
}

// powers returns the powers of a number from the n-th down to the 0th.
func powers(q exact.Q, n int) []exact.Q {
	l := []exact.Q{exact.Int(1)}
	for range n {
		l = append(l, l[len(l)-1].Mul(q))
	}
	slices.Reverse(l)
	return l
}

// worst returns the first of the patterns with the greatest coefficient. (As
// another round makes no coefficient greater, what begins with rounds whose
// coefficient is not above the greatest one so far is left out. Each matrix is
// taken times the denominator of the weight, as integers are multiplied faster;
// the coefficients are compared as if this were done for the rounds to come,
// too.)
func worst(n Net, sets [][]int, rounds int) pattern {
	under := n.Weight.Den()
	factors := powers(under, rounds)
	found := pattern{coefficient: exact.Int(-1)}
	var extend func(lost [][]int, product exact.Mat)
	extend = func(lost [][]int, product exact.Mat) {
		c := coefficient(product).Mul(factors[len(lost)])
		switch {
		case c.Cmp(found.coefficient) <= 0:
			return
		case len(lost) == rounds:
			found = pattern{slices.Clone(lost), c}
			return
		}
		for _, links := range sets {
			next, _ := exact.Mul(multiple(matrix(n, links), under), product)
			extend(append(lost, links), next)
		}
	}
	extend(nil, identity(n.Size))
	found.coefficient = over(found.coefficient, factors[0])
	return found
}

// Worst returns the greatest coefficient of the product of the matrices of so
// many rounds in each of which at most so many links are lost, and the first
// pattern with it.
func Worst(n Net, losses, rounds int) (coefficient exact.Q, lost [][]int, e api.Errno) {
	if e := CheckNet(n); e != api.OK {
		return exact.Q{}, nil, e
	}
	if losses < 0 || rounds < 0 || rounds > api.MaxHops {
		return exact.Q{}, nil, api.ErrRange
	}
	sets := losable(len(n.Links), losses)
	if areMany(sets, rounds) {
		return exact.Q{}, nil, api.ErrLimit
	}
	found := worst(n, sets, rounds)
	for _, links := range found.lost {
		lost = append(lost, slices.Clone(links))
	}
	return found.coefficient, lost, api.OK
}
