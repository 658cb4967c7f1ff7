package exact_test

import (
	"testing"

	"amble/api"
	"amble/exact"
)

// P1.11: the numbers are an ordered field.
func TestField(t *testing.T) {
	s := source(10)
	equal := func(law string, a, b exact.Q) {
		t.Helper()
		if a.Cmp(b) != 0 || a.Text() != b.Text() {
			t.Error(law, a.Text(), b.Text())
		}
	}
	for i := range 500 {
		words := 1 + i%4
		a, b, c := ofRat(s.ratio(words)), ofRat(s.ratio(words)), ofRat(s.ratio(words))
		equal("a + b = b + a", a.Add(b), b.Add(a))
		equal("a b = b a", a.Mul(b), b.Mul(a))
		equal("(a + b) + c = a + (b + c)", a.Add(b).Add(c), a.Add(b.Add(c)))
		equal("(a b) c = a (b c)", a.Mul(b).Mul(c), a.Mul(b.Mul(c)))
		equal("a (b + c) = a b + a c", a.Mul(b.Add(c)), a.Mul(b).Add(a.Mul(c)))
		equal("a - b + b = a", a.Sub(b).Add(b), a)
		equal("a + 0 = a", a.Add(exact.Int(0)), a)
		equal("a 1 = a", a.Mul(exact.Int(1)), a)
		equal("a + -a = 0", a.Add(a.Neg()), exact.Int(0))
		if quotient, e := a.Div(b); e == api.OK {
			equal("a / b times b = a", quotient.Mul(b), a)
		} else if b.Sign() != 0 {
			t.Error("Div by", b.Text(), e)
		}
		if a.Cmp(b) != a.Add(c).Cmp(b.Add(c)) || a.Cmp(b) != -b.Cmp(a) || a.Cmp(b) != a.Sub(b).Sign() {
			t.Error("the order of", a.Text(), b.Text(), c.Text())
		}
	}
}

// P1.12: texts.
func TestTextAndParse(t *testing.T) {
	s := source(11)
	for i := range 1000 {
		a, b := ofRat(s.ratio(1+i%20)), s.small(9)
		q, e := exact.Parse(a.Text())
		if e != api.OK || q.Cmp(a) != 0 || q.Text() != a.Text() {
			t.Error("Parse of Text of", a.Text(), e)
		}
		if c := s.small(9); (b.Cmp(c) == 0) != (b.Text() == c.Text()) {
			t.Error("equal numbers and texts:", b.Text(), c.Text())
		}
	}
	if num("6/4").Text() != num("1.50").Text() || num("6/4").Cmp(num("1.50")) != 0 {
		t.Error("6/4 and 1.50")
	}
}

// P1.13: rounding.
func TestRounding(t *testing.T) {
	s := source(12)
	one := exact.Int(1)
	for i := range 300 {
		a := ofRat(s.ratio(1 + i%3))
		floor := a.Floor()
		if floor.Cmp(a) > 0 || a.Cmp(floor.Add(one)) >= 0 || floor.Den().Cmp(one) != 0 {
			t.Error("Floor of", a.Text(), floor.Text())
		}
		ceil := a.Ceil()
		if ceil.Cmp(a) < 0 || ceil.Sub(one).Cmp(a) >= 0 || ceil.Den().Cmp(one) != 0 {
			t.Error("Ceil of", a.Text(), ceil.Text())
		}
		round, half := a.Round(), num("1/2")
		distance := round.Sub(a).Abs()
		even := round.Mul(half).Den().Cmp(one) == 0
		if round.Den().Cmp(one) != 0 || distance.Cmp(half) > 0 || distance.Cmp(half) == 0 && !even {
			t.Error("Round of", a.Text(), round.Text())
		}
		if under, ok := a.Den().Int64(); ok {
			near, e := a.Near(under)
			expectError(t, "Near for the own denominator", e, api.OK)
			expect(t, "Near for the own denominator", near.Text(), a.Text())
		}
		best, _ := a.Near(1000)
		for range 10 {
			d := int64(s.below(1000) + 1)
			other, _ := a.Mul(exact.Int(d)).Round().Div(exact.Int(d))
			if other.Sub(a).Abs().Cmp(best.Sub(a).Abs()) < 0 || best.Den().Cmp(exact.Int(1000)) > 0 {
				t.Error("Near(1000) of", a.Text(), best.Text(), other.Text())
			}
		}
	}
}

// valueAt returns a x² + b x + c for a number x with a root.
func valueAt(l []exact.Q, x exact.Surd) exact.Surd {
	square := x.A.Mul(x.A).Add(x.B.Mul(x.B).Mul(x.D))
	mixed := x.A.Mul(x.B).Mul(exact.Int(2))
	return exact.Surd{
		A: l[0].Mul(square).Add(l[1].Mul(x.A)).Add(l[2]),
		B: l[0].Mul(mixed).Add(l[1].Mul(x.B)),
		D: x.D,
	}
}

// P1.14: roots.
func TestRootsByPuttingIn(t *testing.T) {
	s := source(13)
	check := func(l []exact.Q, candidates []exact.Surd) {
		t.Helper()
		roots, e := exact.Roots(l[0], l[1], l[2])
		expectError(t, "Roots", e, api.OK)
		for i, root := range roots {
			if sign, e := valueAt(l, root).Sign(); sign != 0 || e != api.OK {
				t.Error("no root of", listText(l), surdText(root))
			}
			if normal, _ := root.Normal(); surdText(normal) != surdText(root) {
				t.Error("a root of", listText(l), "is not normal:", surdText(root))
			}
			if i > 0 {
				if c, _ := roots[i-1].Cmp(root); c >= 0 {
					t.Error("the roots of", listText(l), "do not rise:", surdsText(roots))
				}
			}
		}
		for _, x := range candidates {
			sign, _ := valueAt(l, x).Sign()
			found := false
			for _, root := range roots {
				c, _ := root.Cmp(x)
				found = found || c == 0
			}
			if found != (sign == 0) {
				t.Error("the roots of", listText(l), "and", surdText(x), surdsText(roots))
			}
		}
	}
	all := grid()
	for range 300 {
		l := []exact.Q{s.small(6), s.small(6), s.small(6)}
		if l[0].Sign() != 0 || l[1].Sign() != 0 || l[2].Sign() != 0 {
			check(l, all[s.below(len(all)):][:1])
		}
	}
	for _, x := range all { // x² - 2 A x + A² - B² D is 0 at A + B √D and at A - B √D
		k := s.small(5)
		if k.Sign() == 0 {
			k = exact.Int(-1)
		}
		last := x.A.Mul(x.A).Sub(x.B.Mul(x.B).Mul(x.D))
		check([]exact.Q{k, k.Mul(x.A).Mul(exact.Int(-2)), k.Mul(last)}, []exact.Surd{x, {A: x.A, B: x.B.Neg(), D: x.D}})
	}
}

// P1.15: turning.
func TestTurningProperties(t *testing.T) {
	s := source(14)
	for i := range 300 {
		a, b := ofRat(s.ratio(1+i%3)), s.small(9)
		r, q := exact.Turn(a), exact.Turn(b)
		if half, ok := r.Half(); !r.Valid() || !ok || half.Cmp(a) != 0 {
			t.Error("Turn of", a.Text(), rotText(r))
		}
		p := exact.Point{X: s.small(9), Z: s.small(9)}
		o := exact.Point{X: s.small(9), Z: s.small(9)}
		if p.Turn(r).Dot(o.Turn(r)).Cmp(p.Dot(o)) != 0 || p.Turn(r).Cross(o.Turn(r)).Cmp(p.Cross(o)) != 0 {
			t.Error("Turn by", rotText(r), "changes Dot or Cross of", pointText(p), pointText(o))
		}
		expect(t, "Then and Back", rotText(q.Then(r).Then(r.Back())), rotText(q))
		expect(t, "Then its own Back", rotText(r.Then(r.Back())), "1 0")
		expect(t, "Turn of Turn", pointText(p.Turn(r).Turn(q)), pointText(p.Turn(r.Then(q))))
		if !r.Then(q).Valid() || !r.Back().Valid() {
			t.Error("Then, Back of", rotText(r), rotText(q), "is not valid")
		}
	}
}

// P1.16: solutions.
func TestSolutions(t *testing.T) {
	s := source(15)
	for range 400 {
		rows, columns := s.below(4)+1, s.below(5)+1
		a := s.smallMat(rows, columns, 4)
		hidden := make([]exact.Q, columns)
		for j := range hidden {
			hidden[j] = s.small(5)
		}
		b, _ := exact.Apply(a, hidden)
		x, kernel, e := exact.Solve(a, b)
		expectError(t, "Solve", e, api.OK)
		image, e := exact.Apply(a, x)
		expectError(t, "Apply", e, api.OK)
		expect(t, "a x", listText(image), listText(b))
		if len(kernel) != columns-rank(a) {
			t.Error("the kernel of", matText(a), matText(kernel))
		}
		for _, v := range kernel {
			zero, e := exact.Apply(a, v)
			expectError(t, "Apply", e, api.OK)
			expect(t, "a times a vector of the kernel", listText(zero), listText(make([]exact.Q, rows)))
		}
		_, pivots, _ := exact.Rref(a)
		expect(t, "the solution from x and the kernel", combined(x, kernel, freeOf(columns, pivots), hidden), listText(hidden))
	}
}

func freeOf(columns int, pivots []int) []int {
	var free []int
	for j := range columns {
		if len(pivots) > 0 && pivots[0] == j {
			pivots = pivots[1:]
		} else {
			free = append(free, j)
		}
	}
	return free
}

// combined returns x plus the combination of the kernel that has the numbers
// of goal in the free columns.
func combined(x []exact.Q, kernel exact.Mat, free []int, goal []exact.Q) string {
	sum := append([]exact.Q{}, x...)
	for i, v := range kernel {
		for j := range sum {
			sum[j] = sum[j].Add(v[j].Mul(goal[free[i]]))
		}
	}
	return listText(sum)
}

func TestNoSolution(t *testing.T) {
	s := source(16)
	for range 300 {
		rows, columns := s.below(4)+1, s.below(3)+1
		a := s.smallMat(rows, columns, 3)
		b := make([]exact.Q, rows)
		wide := make(exact.Mat, rows)
		for i := range a {
			b[i] = s.small(3)
			wide[i] = append(append([]exact.Q{}, a[i]...), b[i])
		}
		want := api.OK
		if rank(wide) != rank(a) {
			want = api.ErrNone
		}
		_, _, e := exact.Solve(a, b)
		expectError(t, "Solve of "+matText(a)+" for "+listText(b), e, want)
	}
}

func TestDetAndInverse(t *testing.T) {
	s := source(17)
	for range 300 {
		n := s.below(4) + 1
		a, b := s.smallMat(n, n, 4), s.smallMat(n, n, 4)
		product, _ := exact.Mul(a, b)
		detA, _ := exact.Det(a)
		detB, _ := exact.Det(b)
		det, _ := exact.Det(product)
		expect(t, "Det of a product", det.Text(), detA.Mul(detB).Text())
		inverse, e := exact.Inverse(a)
		if (e == api.OK) != (detA.Sign() != 0) || e != api.OK && e != api.ErrNone {
			t.Error("Inverse of", matText(a), e, detA.Text())
		}
		if e == api.OK {
			left, _ := exact.Mul(inverse, a)
			right, _ := exact.Mul(a, inverse)
			one, pivots, _ := exact.Rref(a)
			if matText(left) != matText(right) || matText(left) != matText(one) || len(pivots) != n {
				t.Error("Inverse of", matText(a), matText(inverse))
			}
		}
	}
}

// P1.17: the sign of a form.
func TestForms(t *testing.T) {
	s := source(18)
	for range 300 {
		a := s.smallMat(s.below(4)+1, s.below(4)+1, 5)
		turned, _ := exact.Trans(a)
		form, e := exact.Mul(a, turned)
		expectError(t, "Mul", e, api.OK)
		checkForm(t, form, true)
		k := s.below(len(form))
		form[k][k] = form[k][k].Neg()
		checkForm(t, form, form[k][k].Sign() == 0)
		sum := s.smallMat(3, 3, 3)
		turned, _ = exact.Trans(sum)
		for i := range sum {
			for j := range sum {
				sum[i][j] = sum[i][j].Add(turned[i][j])
			}
		}
		if ok, x, e := exact.Semidefinite(sum); e != api.OK || !ok && value(sum, x).Sign() >= 0 {
			t.Error("Semidefinite of", matText(sum), ok, listText(x), e)
		}
	}
}
