package exact

import "amble/api"

// columns returns the number of columns; false: a is not valid.
func (a Mat) columns() (int, bool) {
	for _, row := range a {
		if len(row) != len(a[0]) {
			return 0, false
		}
	}
	if len(a) == 0 {
		return 0, true
	}
	return len(a[0]), true
}

// isSquare reports whether a is valid, with as many columns as rows.
func (a Mat) isSquare() bool {
	n, ok := a.columns()
	return ok && n == len(a)
}

// beside returns a new matrix: the rows of a, each with that of b behind it.
func (a Mat) beside(b Mat) Mat {
	joined := make(Mat, len(a))
	for i, row := range a {
		joined[i] = make([]Q, len(row)+len(b[i]))
		copy(joined[i], row)
		copy(joined[i][len(row):], b[i])
	}
	return joined
}

// clone returns a new matrix with the numbers of a.
func (a Mat) clone() Mat { return a.beside(make(Mat, len(a))) }

// unit returns the matrix with 1 on its diagonal and 0 elsewhere.
func unit(n int) Mat {
	m := make(Mat, n)
	for i := range m {
		m[i] = make([]Q, n)
		m[i][i] = Int(1)
	}
	return m
}

// dot returns the sum of the products of a's numbers with those of b.
func dot(a, b []Q) Q {
	var sum Q
	for i := range a {
		sum = sum.Add(a[i].Mul(b[i]))
	}
	return sum
}

// addTimes adds k times b to a, in place.
func addTimes(a []Q, k Q, b []Q) {
	if k.Sign() == 0 {
		return
	}
	for i := range a {
		a[i] = a[i].Add(k.Mul(b[i]))
	}
}

// Mul returns the product of two matrices.
func Mul(a, b Mat) (Mat, api.Errno) {
	n, ok := a.columns()
	columns, valid := b.columns()
	if !ok || !valid || n != len(b) {
		return nil, api.ErrArg
	}
	product := make(Mat, len(a))
	for i, row := range a {
		product[i] = make([]Q, columns)
		for j, k := range row {
			addTimes(product[i], k, b[j])
		}
	}
	return product, api.OK
}

// Apply returns a times x.
func Apply(a Mat, x []Q) ([]Q, api.Errno) {
	if n, ok := a.columns(); !ok || n != len(x) {
		return nil, api.ErrArg
	}
	product := make([]Q, len(a))
	for i, row := range a {
		product[i] = dot(row, x)
	}
	return product, api.OK
}

// Trans returns the transposed matrix.
func Trans(a Mat) (Mat, api.Errno) {
	n, ok := a.columns()
	if !ok {
		return nil, api.ErrArg
	}
	turned := make(Mat, n)
	for j := range turned {
		turned[j] = make([]Q, len(a))
		for i := range a {
			turned[j][i] = a[i][j]
		}
	}
	return turned, api.OK
}

// pivotIn returns the first row from the given one on whose entry in the
// column is not 0; false: there is none.
func (a Mat) pivotIn(column, from int) (int, bool) {
	for i := from; i < len(a); i++ {
		if a[i][column].Sign() != 0 {
			return i, true
		}
	}
	return 0, false
}

// reduce brings a, which has n columns, into its reduced form, in place, and
// returns the pivot columns.
func (a Mat) reduce(n int) []int {
	var pivots []int
	eliminate := func(row, column int) {
		factor := a[row][column].inverse()
		for j := column; j < n; j++ {
			a[row][j] = a[row][j].Mul(factor)
		}
		for i := range a {
			if i != row {
				addTimes(a[i][column:], a[i][column].Neg(), a[row][column:])
			}
		}
	}
	for column := range n {
		row := len(pivots)
		if found, ok := a.pivotIn(column, row); ok {
			a[row], a[found] = a[found], a[row]
			eliminate(row, column)
			pivots = append(pivots, column)
		}
	}
	return pivots
}

// Rref returns the reduced form of a, and the pivot columns, rising.
func Rref(a Mat) (Mat, []int, api.Errno) {
	n, ok := a.columns()
	if !ok {
		return nil, nil, api.ErrArg
	}
	form := a.clone()
	return form, form.reduce(n), api.OK
}

// Solve returns the solution of a x = b whose entries at free columns are 0,
// and the kernel of a.
func Solve(a Mat, b []Q) (x []Q, kernel Mat, e api.Errno) {
	n, ok := a.columns()
	if !ok || len(a) != len(b) {
		return nil, nil, api.ErrArg
	}
	right := make(Mat, len(b))
	for i := range b {
		right[i] = []Q{b[i]}
	}
	form := a.beside(right)
	pivots := form.reduce(n + 1)
	if len(pivots) > 0 && pivots[len(pivots)-1] == n {
		return nil, nil, api.ErrNone
	}
	x = make([]Q, n)
	for i, column := range pivots {
		x[column] = form[i][n]
	}
	return x, form.kernel(n, pivots), api.OK
}

// kernel returns, for each free column among the first n of a reduced form,
// the vector that has 1 there and 0 at the others, and that the form takes to
// 0.
func (a Mat) kernel(n int, pivots []int) Mat {
	var kernel Mat
	row := 0
	for column := range n {
		if row < len(pivots) && pivots[row] == column {
			row++
			continue
		}
		v := make([]Q, n)
		v[column] = Int(1)
		for i, pivot := range pivots {
			v[pivot] = a[i][column].Neg()
		}
		kernel = append(kernel, v)
	}
	return kernel
}

// Det returns the determinant: the product of the pivots, with the other sign
// for each exchange of rows.
func Det(a Mat) (Q, api.Errno) {
	if !a.isSquare() {
		return Q{}, api.ErrArg
	}
	m, det := a.clone(), Int(1)
	eliminate := func(k int) {
		for i := k + 1; i < len(m); i++ {
			addTimes(m[i][k:], m[i][k].over(m[k][k]).Neg(), m[k][k:])
		}
	}
	for k := range m {
		found, ok := m.pivotIn(k, k)
		if !ok {
			return Q{}, api.OK
		}
		if found != k {
			m[k], m[found] = m[found], m[k]
			det = det.Neg()
		}
		det = det.Mul(m[k][k])
		eliminate(k)
	}
	return det, api.OK
}

// Inverse returns the inverse of a.
func Inverse(a Mat) (Mat, api.Errno) {
	if !a.isSquare() {
		return nil, api.ErrArg
	}
	n := len(a)
	form := a.beside(unit(n))
	pivots := form.reduce(2 * n)
	if n > 0 && pivots[n-1] >= n {
		return nil, api.ErrNone
	}
	inverse := make(Mat, n)
	for i := range inverse {
		inverse[i] = make([]Q, n)
		copy(inverse[i], form[i][n:])
	}
	return inverse, api.OK
}

func (a Mat) isSymmetric() bool {
	for i := range a {
		for j := range i {
			if a[i][j].Cmp(a[j][i]) != 0 {
				return false
			}
		}
	}
	return true
}

// Semidefinite reports whether x·(a x) is at least 0 for all x; if not, it
// returns some x for which it is negative. It changes the basis step by step
// so that each vector's product with all that come behind it is 0: m holds the
// products of those that are left.
func Semidefinite(a Mat) (bool, []Q, api.Errno) {
	if !a.isSquare() || !a.isSymmetric() {
		return false, nil, api.ErrArg
	}
	m, basis := a.clone(), unit(len(a))
	eliminate := func(k int) {
		for i := k + 1; i < len(m); i++ {
			factor := m[i][k].over(m[k][k]).Neg()
			addTimes(m[i][k:], factor, m[k][k:])
			addTimes(basis[i], factor, basis[k])
		}
	}
	for k := range m {
		if m[k][k].Sign() > 0 {
			eliminate(k)
			continue
		}
		if m[k][k].Sign() < 0 {
			return false, basis[k], api.OK
		}
		if i, ok := m.pivotIn(k, k+1); ok {
			return false, descend(basis[k], basis[i], m[i][k], m[i][i]), api.OK
		}
	}
	return true, nil, api.OK
}

// descend returns a vector with the product -1 with itself, for a flat vector
// (its product with itself is 0), and another one with the product mixed with
// it and own with itself.
func descend(flat, other []Q, mixed, own Q) []Q {
	x := make([]Q, len(other))
	copy(x, other)
	addTimes(x, own.Add(Int(1)).over(mixed.Add(mixed)).Neg(), flat)
	return x
}
