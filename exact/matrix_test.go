package exact_test

import (
	"fmt"
	"testing"

	"amble/api"
	"amble/exact"
)

// ragged returns matrices that are not valid.
func ragged() []exact.Mat {
	return []exact.Mat{mat("1", ""), mat("", "1"), mat("1 2", "1"), mat("1", "1 2"), mat("1 0", "0 1", "1"), mat("1 2", "1 2", "1 2 3")}
}

// oblong returns valid matrices that are not square.
func oblong() []exact.Mat {
	return []exact.Mat{mat(""), mat("", ""), mat("1 2"), mat("1", "2"), mat("1 0 0", "0 1 0"), mat("1 0", "0 1", "0 0")}
}

// P1.8: Mul, Apply, Trans.

func TestMul(t *testing.T) {
	for _, c := range []struct {
		a, b exact.Mat
		want string
	}{
		{mat("1 2", "3 4"), mat("5 6", "7 8"), "[19 22][43 50]"},
		{mat("5 6", "7 8"), mat("1 2", "3 4"), "[23 34][31 46]"},
		{mat("1 2 3"), mat("4", "5", "6"), "[32]"},
		{mat("4", "5", "6"), mat("1 2 3"), "[4 8 12][5 10 15][6 12 18]"},
		{mat("1/2 -1/3"), mat("2 0", "3 6"), "[0 -2]"},
		{nil, nil, ""}, {exact.Mat{}, nil, ""}, {mat(""), nil, "[]"}, {mat("", ""), exact.Mat{}, "[][]"},
		{mat("1 2", "3 4", "5 6"), mat("", ""), "[][][]"}, {mat("0 0"), mat("1", "2"), "[0]"},
	} {
		got, e := exact.Mul(c.a, c.b)
		expectError(t, "Mul", e, api.OK)
		expect(t, "Mul", matText(got), c.want)
	}
	for _, c := range [][2]exact.Mat{
		{mat("1 2"), mat("1 2")}, {nil, mat("1")}, {nil, mat("")}, {mat("1"), nil}, {mat(""), mat("1")}, {mat("1 2"), mat("1", "2", "3")}, {mat("1 2", "3 4"), mat("1")},
	} {
		got, e := exact.Mul(c[0], c[1])
		expectError(t, "Mul of "+matText(c[0])+" and "+matText(c[1]), e, api.ErrArg)
		expect(t, "Mul", matText(got), "")
	}
	for _, m := range ragged() {
		got, e := exact.Mul(m, make(exact.Mat, len(m[0])))
		expectError(t, "Mul of ragged", e, api.ErrArg)
		expect(t, "Mul", matText(got), "")
		got, e = exact.Mul(exact.Mat{make([]exact.Q, len(m))}, m)
		expectError(t, "Mul with ragged", e, api.ErrArg)
		expect(t, "Mul", matText(got), "")
	}
}

func TestApply(t *testing.T) {
	for _, c := range []struct {
		a       exact.Mat
		x, want string
	}{
		{mat("1 2", "3 4"), "5 6", "17 39"}, {mat("1 2 3"), "1/2 1/3 -1/6", "2/3"}, {mat("1", "2", "3"), "2", "2 4 6"},
		{nil, "", ""}, {mat("", "", ""), "", "0 0 0"}, {mat("0 1", "1 0"), "7 8", "8 7"},
	} {
		got, e := exact.Apply(c.a, nums(c.x))
		expectError(t, "Apply", e, api.OK)
		expect(t, "Apply", listText(got), c.want)
	}
	for _, c := range []struct {
		a exact.Mat
		x string
	}{{nil, "1"}, {mat(""), "1"}, {mat("1"), ""}, {mat("1 2"), "1"}, {mat("1 2", "3 4"), "1 2 3"}, {mat("1", "2"), "1 2"}} {
		got, e := exact.Apply(c.a, nums(c.x))
		expectError(t, "Apply of "+matText(c.a)+" to "+c.x, e, api.ErrArg)
		expect(t, "Apply", listText(got), "")
	}
	for _, m := range ragged() {
		for _, n := range []int{len(m[0]), len(m[len(m)-1])} {
			got, e := exact.Apply(m, make([]exact.Q, n))
			expectError(t, "Apply of ragged", e, api.ErrArg)
			expect(t, "Apply", listText(got), "")
		}
	}
}

func TestTrans(t *testing.T) {
	for _, c := range []struct {
		a    exact.Mat
		want string
	}{
		{mat("1 2", "3 4"), "[1 3][2 4]"}, {mat("1 2 3"), "[1][2][3]"}, {mat("1", "2", "3"), "[1 2 3]"}, {mat("1 2 3", "4 5 6"), "[1 4][2 5][3 6]"},
		{nil, ""}, {exact.Mat{}, ""}, {mat(""), ""}, {mat("", ""), ""},
	} {
		got, e := exact.Trans(c.a)
		expectError(t, "Trans", e, api.OK)
		expect(t, "Trans", matText(got), c.want)
	}
	for _, m := range ragged() {
		got, e := exact.Trans(m)
		expectError(t, "Trans of ragged", e, api.ErrArg)
		expect(t, "Trans", matText(got), "")
	}
}

// P1.9: Rref, Solve.

func TestRref(t *testing.T) {
	for _, c := range []struct {
		a            exact.Mat
		want, pivots string
	}{
		{mat("1 2", "3 4"), "[1 0][0 1]", "[0 1]"}, {mat("2 4", "1 2"), "[1 2][0 0]", "[0]"}, {mat("0 0", "0 0"), "[0 0][0 0]", "[]"},
		{mat("0 2 4", "0 1 3"), "[0 1 0][0 0 1]", "[1 2]"}, {mat("0 0", "0 3"), "[0 1][0 0]", "[1]"}, {mat("0", "5", "3"), "[1][0][0]", "[0]"},
		{mat("1 2 3", "2 4 7"), "[1 2 0][0 0 1]", "[0 2]"}, {mat("1/2 1/3", "1/4 1/5"), "[1 0][0 1]", "[0 1]"}, {mat("-3 6 1"), "[1 -2 -1/3]", "[0]"},
		{mat("0 1", "1 0"), "[1 0][0 1]", "[0 1]"}, {mat("1 1 1", "1 1 1", "0 1 2"), "[1 0 -1][0 1 2][0 0 0]", "[0 1]"},
		{mat("0 0 0", "0 0 7", "0 2 5", "0 0 0"), "[0 1 0][0 0 1][0 0 0][0 0 0]", "[1 2]"},
		{nil, "", "[]"}, {exact.Mat{}, "", "[]"}, {mat(""), "[]", "[]"}, {mat("", ""), "[][]", "[]"},
	} {
		got, pivots, e := exact.Rref(c.a)
		expectError(t, "Rref", e, api.OK)
		expect(t, "Rref of "+matText(c.a), matText(got)+fmt.Sprint(pivots), c.want+c.pivots)
	}
	for _, m := range ragged() {
		got, pivots, e := exact.Rref(m)
		expectError(t, "Rref of ragged", e, api.ErrArg)
		expect(t, "Rref", matText(got)+fmt.Sprint(pivots), "[]")
	}
}

// isReduced reports whether m has the properties of a reduced form with these
// pivot columns.
func isReduced(m exact.Mat, pivots []int) bool {
	for i, row := range m {
		for j, q := range row {
			wanted := -1
			switch {
			case i >= len(pivots) || j < pivots[i]:
				wanted = 0
			case j == pivots[i]:
				wanted = 1
			}
			if wanted >= 0 && q.Cmp(exact.Int(int64(wanted))) != 0 {
				return false
			}
		}
		if i < len(pivots) {
			if i > 0 && pivots[i] <= pivots[i-1] {
				return false
			}
			for k := range m {
				if k != i && m[k][pivots[i]].Sign() != 0 {
					return false
				}
			}
		}
	}
	return len(pivots) <= len(m)
}

// spans reports whether each row of a is a combination of the rows of a
// reduced form, whose weights can only be the row's numbers in the pivot
// columns.
func spans(form exact.Mat, pivots []int, a exact.Mat) bool {
	for _, row := range a {
		for j := range row {
			var sum exact.Q
			for i, pivot := range pivots {
				sum = sum.Add(row[pivot].Mul(form[i][j]))
			}
			if sum.Cmp(row[j]) != 0 {
				return false
			}
		}
	}
	return true
}

// rank counts the rows that are no combination of the ones before, by the
// greatest minor that is not 0.
func rank(a exact.Mat) int {
	most := 0
	for _, rows := range subsets(len(a)) {
		for _, columns := range subsets(len(a[0])) {
			if len(rows) == len(columns) && len(rows) > most && laplace(minor(a, rows, columns)).Sign() != 0 {
				most = len(rows)
			}
		}
	}
	return most
}

func subsets(n int) [][]int {
	var l [][]int
	for set := range 1 << n {
		var members []int
		for i := range n {
			if set>>i&1 == 1 {
				members = append(members, i)
			}
		}
		l = append(l, members)
	}
	return l
}

func minor(a exact.Mat, rows, columns []int) exact.Mat {
	m := exact.Mat{}
	for _, i := range rows {
		row := []exact.Q{}
		for _, j := range columns {
			row = append(row, a[i][j])
		}
		m = append(m, row)
	}
	return m
}

// laplace computes a determinant along the first column.
func laplace(a exact.Mat) exact.Q {
	if len(a) == 0 {
		return exact.Int(1)
	}
	var sum exact.Q
	for i := range a {
		rest := exact.Mat{}
		for k := range a {
			if k != i {
				rest = append(rest, a[k][1:])
			}
		}
		term := a[i][0].Mul(laplace(rest))
		if i%2 == 1 {
			term = term.Neg()
		}
		sum = sum.Add(term)
	}
	return sum
}

func TestRrefByProperties(t *testing.T) {
	s := source(7)
	for range 400 {
		a := s.smallMat(s.below(4)+1, s.below(4)+1, 4)
		form, pivots, e := exact.Rref(a)
		expectError(t, "Rref", e, api.OK)
		if len(form) != len(a) || !isReduced(form, pivots) || !spans(form, pivots, a) || len(pivots) != rank(a) {
			t.Error("Rref of", matText(a), matText(form), pivots)
		}
	}
}

func TestSolve(t *testing.T) {
	for _, c := range []struct {
		a               exact.Mat
		b, want, kernel string
	}{
		{mat("1 2", "2 4"), "3 6", "3 0", "[-2 1]"}, {mat("2 1", "1 1"), "3 2", "1 1", ""}, {mat("1 2 3"), "4", "4 0 0", "[-2 1 0][-3 0 1]"},
		{mat("0 0 0"), "0", "0 0 0", "[1 0 0][0 1 0][0 0 1]"}, {mat("0 2 0 4", "0 0 3 6"), "6 9", "0 3 3 0", "[1 0 0 0][0 -2 -2 1]"},
		{mat("1", "2"), "3 6", "3", ""}, {mat("1 1", "1 1", "1 1"), "0 0 0", "0 0", "[-1 1]"}, {mat("1/2"), "1/3", "2/3", ""},
		{nil, "", "", ""}, {exact.Mat{}, "", "", ""}, {mat(""), "0", "", ""}, {mat("", ""), "0 0", "", ""}, {mat("0"), "0", "0", "[1]"},
		{mat("1 -1 0", "0 1 -1"), "1/2 1/3", "5/6 1/3 0", "[1 1 1]"}, {mat("0 1", "1 0"), "5 6", "6 5", ""},
	} {
		x, kernel, e := exact.Solve(c.a, nums(c.b))
		expectError(t, "Solve", e, api.OK)
		expect(t, "Solve of "+matText(c.a)+" for "+c.b, listText(x)+"; "+matText(kernel), c.want+"; "+c.kernel)
	}
}

func TestSolveErrors(t *testing.T) {
	for _, c := range []struct {
		a    exact.Mat
		b    string
		want api.Errno
	}{
		{mat("1 2", "2 4"), "3 7", api.ErrNone}, {mat("0"), "1", api.ErrNone}, {mat("0 0"), "-1/2", api.ErrNone}, {mat("1", "1"), "1 2", api.ErrNone},
		{mat(""), "1", api.ErrNone}, {mat("", ""), "0 1", api.ErrNone}, {mat("1 1", "1 1", "1 2"), "1 2 3", api.ErrNone},
		{nil, "1", api.ErrArg}, {mat("1"), "", api.ErrArg}, {mat("1", "2"), "1", api.ErrArg}, {mat("1 2"), "1 2", api.ErrArg}, {mat(""), "", api.ErrArg},
		{mat("0 0"), "1 2", api.ErrArg}, {mat("1 2", "1"), "1 1", api.ErrArg}, {mat("0", "0 0"), "1 1", api.ErrArg},
	} {
		x, kernel, e := exact.Solve(c.a, nums(c.b))
		expectError(t, "Solve of "+matText(c.a)+" for "+c.b, e, c.want)
		expect(t, "Solve", listText(x)+matText(kernel), "")
	}
	for _, m := range ragged() {
		x, kernel, e := exact.Solve(m, make([]exact.Q, len(m)))
		expectError(t, "Solve of ragged", e, api.ErrArg)
		expect(t, "Solve", listText(x)+matText(kernel), "")
	}
}

// P1.10: Det, Inverse, Semidefinite.

func TestDet(t *testing.T) {
	for _, c := range []struct {
		a    exact.Mat
		want string
	}{
		{nil, "1"}, {exact.Mat{}, "1"}, {mat("7"), "7"}, {mat("0"), "0"}, {mat("1 2", "3 4"), "-2"}, {mat("0 1", "1 0"), "-1"},
		{mat("2 1", "1 1"), "1"}, {mat("1 2", "2 4"), "0"}, {mat("0 0 1", "1 0 0", "0 1 0"), "1"}, {mat("0 0 1", "0 1 0", "1 0 0"), "-1"},
		{mat("1/2 1/3", "1/4 1/5"), "1/60"}, {mat("0 2", "0 3"), "0"}, {mat("2 0 0", "0 3 0", "0 0 -4"), "-24"},
	} {
		got, e := exact.Det(c.a)
		expectError(t, "Det", e, api.OK)
		expect(t, "Det of "+matText(c.a), got.Text(), c.want)
	}
	s := source(8)
	for range 300 {
		n := s.below(5) + 1
		a := s.smallMat(n, n, 5)
		got, _ := exact.Det(a)
		expect(t, "Det of "+matText(a), got.Text(), laplace(a).Text())
	}
}

func TestInverse(t *testing.T) {
	for _, c := range []struct {
		a    exact.Mat
		want string
	}{
		{nil, ""}, {exact.Mat{}, ""}, {mat("2"), "[1/2]"}, {mat("2 1", "1 1"), "[1 -1][-1 2]"}, {mat("0 1", "1 0"), "[0 1][1 0]"},
		{mat("1 2", "3 4"), "[-2 1][3/2 -1/2]"}, {mat("0 0 2", "3 0 0", "0 4 0"), "[0 1/3 0][0 0 1/4][1/2 0 0]"},
	} {
		got, e := exact.Inverse(c.a)
		expectError(t, "Inverse", e, api.OK)
		expect(t, "Inverse of "+matText(c.a), matText(got), c.want)
	}
	for _, m := range []exact.Mat{mat("0"), mat("1 2", "2 4"), mat("0 0", "0 0"), mat("1 2 3", "4 5 6", "7 8 9"), mat("0 1", "0 2")} {
		got, e := exact.Inverse(m)
		expectError(t, "Inverse of "+matText(m), e, api.ErrNone)
		expect(t, "Inverse", matText(got), "")
	}
}

func TestSquareErrors(t *testing.T) {
	for _, m := range append(ragged(), oblong()...) {
		det, e := exact.Det(m)
		expectError(t, "Det of "+matText(m), e, api.ErrArg)
		expect(t, "Det", det.Text(), "0")
		inverse, e := exact.Inverse(m)
		expectError(t, "Inverse of "+matText(m), e, api.ErrArg)
		expect(t, "Inverse", matText(inverse), "")
		ok, x, e := exact.Semidefinite(m)
		expectError(t, "Semidefinite of "+matText(m), e, api.ErrArg)
		expect(t, "Semidefinite", listText(x), "")
		if ok {
			t.Error("Semidefinite of", matText(m), "with an error: true")
		}
	}
}

// value returns x·(a x).
func value(a exact.Mat, x []exact.Q) exact.Q {
	var sum exact.Q
	for i := range a {
		for j := range a {
			sum = sum.Add(a[i][j].Mul(x[i]).Mul(x[j]))
		}
	}
	return sum
}

// checkForm compares Semidefinite with what is known of a symmetric matrix.
func checkForm(t *testing.T, a exact.Mat, want bool) {
	t.Helper()
	got, x, e := exact.Semidefinite(a)
	expectError(t, "Semidefinite of "+matText(a), e, api.OK)
	if got != want {
		t.Error("Semidefinite of", matText(a), got)
	}
	if got && len(x) != 0 {
		t.Error("Semidefinite of", matText(a), "with a witness", listText(x))
	}
	if !got && (len(x) != len(a) || value(a, x).Sign() >= 0) {
		t.Error("Semidefinite of", matText(a), "with the wrong witness", listText(x))
	}
}

func TestSemidefinite(t *testing.T) {
	for _, m := range []exact.Mat{
		nil, {}, mat("0"), mat("3"), mat("2 1", "1 1"), mat("1 1", "1 1"), mat("0 0", "0 0"), mat("0 0", "0 1"), mat("1 0", "0 0"),
		mat("2 -1 0", "-1 2 -1", "0 -1 2"), mat("1 -1 0", "-1 2 -1", "0 -1 1"), mat("1/2 1/3", "1/3 2/9"), mat("0 0 0", "0 2 1", "0 1 2"),
	} {
		checkForm(t, m, true)
	}
	for _, m := range []exact.Mat{
		mat("-1"), mat("0 1", "1 0"), mat("0 1", "1 5"), mat("0 -1", "-1 -5"), mat("1 2", "2 1"), mat("1 0", "0 -1"), mat("0 0", "0 -1"),
		mat("1 1", "1 1/2"), mat("1 1 0", "1 1 1", "0 1 1"), mat("1 1 1", "1 1 2", "1 2 100"), mat("1/2 1/3", "1/3 2/10"), mat("0 0 1", "0 1 0", "1 0 1"),
		mat("0 0 0", "0 0 -1/7", "0 -1/7 3"), mat("2 -1 0", "-1 2 -1", "0 -1 1/2"),
	} {
		checkForm(t, m, false)
	}
	for _, m := range []exact.Mat{mat("1 1", "0 1"), mat("0 1", "-1 0"), mat("1 2 3", "2 1 4", "3 5 1"), mat("-1 1", "0 1")} {
		ok, x, e := exact.Semidefinite(m)
		expectError(t, "Semidefinite of "+matText(m), e, api.ErrArg)
		if ok || len(x) != 0 {
			t.Error("Semidefinite of", matText(m), ok, listText(x))
		}
	}
}

// A symmetric matrix is semidefinite exactly if no minor with the same rows as
// columns is negative.
func TestSemidefiniteByMinors(t *testing.T) {
	s := source(9)
	for range 600 {
		n := s.below(4) + 1
		a := s.smallMat(n, n, 2)
		for i := range a {
			a[i][i] = a[i][i].Abs().Add(exact.Int(int64(s.below(2))))
			for j := range i {
				a[i][j] = a[j][i]
			}
		}
		want := true
		for _, set := range subsets(n) {
			want = want && laplace(minor(a, set, set)).Sign() >= 0
		}
		checkForm(t, a, want)
	}
}
