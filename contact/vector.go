package contact

import "amble/exact"

// over returns a / b; b is not 0.
func over(a, b exact.Q) exact.Q {
	quotient, _ := a.Div(b)
	return quotient
}

// dot returns the sum of the products of a's numbers with those of b.
func dot(a, b []exact.Q) exact.Q {
	var sum exact.Q
	for i := range a {
		sum = sum.Add(a[i].Mul(b[i]))
	}
	return sum
}

// times returns what each of the rows gives for x. (Unlike exact.Apply it takes
// the rows of a matrix that has none, or none with numbers, for what they are.)
func times(rows exact.Mat, x []exact.Q) []exact.Q {
	product := make([]exact.Q, len(rows))
	for i, row := range rows {
		product[i] = dot(row, x)
	}
	return product
}

// plus returns a new list: a plus k times b.
func plus(a []exact.Q, k exact.Q, b []exact.Q) []exact.Q {
	sum := make([]exact.Q, len(a))
	for i := range a {
		sum[i] = a[i].Add(k.Mul(b[i]))
	}
	return sum
}

// scaled returns a new list: k times a.
func scaled(k exact.Q, a []exact.Q) []exact.Q { return plus(make([]exact.Q, len(a)), k, a) }
