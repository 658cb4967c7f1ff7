package hull_test

import (
	"testing"

	"amble/api"
	"amble/exact"
	"amble/hull"
)

// tangents returns rows about two unknowns, z not below the tangents of the
// parabola z = x² at the integers from first on, so many. None of them can be
// left out. The unknowns are those with the index at, and the next one, of n.
func tangents(n, at, first, count int) []hull.Row {
	var rows []hull.Row
	for x := first; x < first+count; x++ {
		a := make([]exact.Q, n)
		a[at], a[at+1] = exact.Int(int64(2*x)), exact.Int(-1)
		rows = append(rows, hull.Row{A: a, B: exact.Int(int64(x * x))})
	}
	return rows
}

// P2.6: Canon.
func TestCanon(t *testing.T) {
	for _, c := range []struct {
		p    hull.Poly
		want []string
	}{
		{square(), []string{"-1 0 <= 0", "0 -1 <= 0", "0 1 <= 1", "1 0 <= 1"}},
		{poly(2, "2 4 <= 6", "-1 -2 <= -3", "1 0 <= 7"), []string{"1 2 <= 3", "-1 -2 <= -3", "0 -1 <= 2"}},
		{poly(2), nil},
		{poly(0), nil},
		{poly(0, "<= 0", "<= 3"), nil},
		{poly(0, "<= -1/2"), []string{"<= -1"}},
		{poly(2, "0 0 <= 0", "0 0 <= 7"), nil},
		{poly(2, "0 0 <= -1/7", "1 0 <= 3"), []string{"0 0 <= -1"}},
		{poly(2, "1 1 <= 0", "-1 -1 <= -1"), []string{"0 0 <= -1"}},
		{poly(3, "1 0 0 <= 0", "-1 0 0 <= -1", "0 1 0 <= 1"), []string{"0 0 0 <= -1"}},
		{poly(2, "3 0 <= 1", "6 0 <= 2", "2/3 0 <= 1"), []string{"1 0 <= 1/3"}},
		{poly(1, "2 <= 3", "-2 <= -3"), []string{"1 <= 3/2", "-1 <= -3/2"}},
		{poly(1, "-2 <= -3", "5 <= 15/2", "7 <= 100"), []string{"1 <= 3/2", "-1 <= -3/2"}},
		{poly(2, "-4 0 <= 2", "4 0 <= -2"), []string{"1 0 <= -1/2", "-1 0 <= 1/2"}},
		{poly(2, "0 -4 <= 2", "0 4 <= -2"), []string{"0 1 <= -1/2", "0 -1 <= 1/2"}},
		{poly(2, "-2 4 <= 1", "2 -4 <= -1"), []string{"1 -2 <= -1/2", "-1 2 <= 1/2"}},
		{poly(2, "1 0 <= 0", "0 1 <= 0", "-1 -1 <= 0"), []string{"1 0 <= 0", "-1 0 <= 0", "0 1 <= 0", "0 -1 <= 0"}},
		{poly(2, "1/2 1/3 <= 1"), []string{"3 2 <= 6"}},
		{poly(2, "1 0 <= 1", "0 1 <= 1", "1 1 <= 2", "1 1 <= 5/2"), []string{"0 1 <= 1", "1 0 <= 1"}},
		{poly(2, "1 0 <= 1", "0 1 <= 1", "1 1 <= 199/100"), []string{"0 1 <= 1", "1 0 <= 1", "1 1 <= 199/100"}},
		{poly(3, "1 1 1 <= 1", "-1 -1 -1 <= -1", "1 -1 0 <= 0", "-1 1 0 <= 0", "-1 0 0 <= 0", "0 0 -1 <= 5"),
			[]string{"2 0 1 <= 1", "-2 0 -1 <= -1", "0 2 1 <= 1", "0 -2 -1 <= -1", "0 0 -1 <= 5", "0 0 1 <= 1"}},
		{poly(3, "0 1 2 <= 2", "0 -1 -2 <= -2", "0 0 1 <= 4", "1 1 1 <= 0"), []string{"0 1 2 <= 2", "0 -1 -2 <= -2", "0 0 1 <= 4", "1 0 -1 <= -2"}},
		{poly(1, "123456789012345678901234567890 <= 3", "-98765432109876543210 <= 1/7"), []string{"-1 <= 1/691358024769135802470", "1 <= 1/41152263004115226300411522630"}},
	} {
		got, e := hull.Canon(c.p)
		expectPoly(t, "Canon of "+polyText(c.p), got, e, c.p.N, c.want...)
	}
}

// isCanonical checks a description by the definition.
func isCanonical(t *testing.T, p hull.Poly) bool {
	t.Helper()
	if isVoid(t, p) {
		return len(p.Rows) == 1 && p.Rows[0].B.Cmp(exact.Int(-1)) == 0 && compare(p.Rows[0].A, make([]exact.Q, p.N)) == 0
	}
	var form exact.Mat
	i := 0
	for ; i+1 < len(p.Rows) && rowText(p.Rows[i+1]) == rowText(hull.Row{A: scaled(p.Rows[i].A, exact.Int(-1)), B: p.Rows[i].B.Neg()}); i += 2 {
		form = append(form, append(scaled(p.Rows[i].A, exact.Int(1)), p.Rows[i].B))
	}
	reduced, pivots, _ := exact.Rref(form)
	if len(pivots) != len(form) {
		return false
	}
	for k := range form {
		if compare(primitive(reduced[k][:p.N]), form[k][:p.N]) != 0 || compare(primitive(form[k][:p.N]), form[k][:p.N]) != 0 || reduced[k][pivots[k]].Mul(form[k][pivots[k]]).Mul(form[k][p.N]).Cmp(reduced[k][p.N].Mul(form[k][pivots[k]]).Mul(form[k][pivots[k]])) != 0 {
			return false
		}
	}
	for k := i; k < len(p.Rows); k++ {
		a := p.Rows[k].A
		for _, pivot := range pivots {
			if a[pivot].Sign() != 0 {
				return false
			}
		}
		if compare(primitive(a), a) != 0 || compare(a, make([]exact.Q, p.N)) == 0 || k > i && compare(p.Rows[k-1].A, a) >= 0 || !matters(t, p, k) {
			return false
		}
	}
	return true
}

// matters reports whether there is a point for which all rows but this one
// are true, and it and its opposite are not.
func matters(t *testing.T, p hull.Poly, k int) bool {
	t.Helper()
	others := hull.Poly{N: p.N, Rows: append(append([]hull.Row{}, p.Rows[:k]...), p.Rows[k+1:]...)}
	low, high, below, above, e := hull.Bounds(p.Rows[k].A, others)
	if e != api.OK {
		t.Fatal("Bounds", e)
	}
	b := p.Rows[k].B
	return (!above || high.Cmp(b) > 0) && (!below || low.Cmp(b) < 0)
}

func TestCanonIsCanonical(t *testing.T) {
	s := source(6)
	for range 1500 {
		p := s.poly(s.below(5), 8)
		c, e := hull.Canon(p)
		expectError(t, "Canon", e, api.OK)
		if c.N != p.N || !isCanonical(t, c) {
			t.Fatal("Canon of", polyText(p), "is", polyText(c))
		}
		there, _ := hull.Within(p, c)
		back, _ := hull.Within(c, p)
		if !there.Holds || !back.Holds {
			t.Fatal("Canon has other points than", polyText(p))
		}
		again, e := hull.Canon(c)
		expectError(t, "Canon of Canon", e, api.OK)
		expect(t, "Canon of Canon", polyText(again), polyText(c))
		other, e := hull.Canon(s.disguised(p))
		expectError(t, "Canon", e, api.OK)
		expect(t, "Canon of other rows for "+polyText(p), polyText(other), polyText(c))
		same, e := hull.Same(p, s.disguised(c))
		if !same || e != api.OK {
			t.Fatal("Same of", polyText(p), "and its canonical description", e)
		}
	}
}

// disguised returns other rows for the same polyhedron: multiples, in another
// order, and sums.
func (s *source) disguised(p hull.Poly) hull.Poly {
	q := hull.Poly{N: p.N}
	for _, r := range p.Rows {
		k, _ := exact.Of(int64(s.below(5)+1), int64(s.below(5)+1))
		q.Rows = append(q.Rows, hull.Row{A: scaled(r.A, k), B: r.B.Mul(k)})
		other := p.Rows[s.below(len(p.Rows))]
		q.Rows = append(q.Rows, hull.Row{A: plus(r.A, other.A), B: r.B.Add(other.B).Add(exact.Int(int64(s.below(2))))})
	}
	for i := range q.Rows {
		j := s.below(i + 1)
		q.Rows[i], q.Rows[j] = q.Rows[j], q.Rows[i]
	}
	return q
}

// P2.6, P2.15: Same, and equal descriptions.
func TestSame(t *testing.T) {
	for _, c := range []struct {
		p, q hull.Poly
		want bool
	}{
		{square(), poly(2, "2 0 <= 2", "0 3 <= 3", "-1 0 <= 0", "0 -1 <= 0", "1 1 <= 2"), true},
		{square(), poly(2, "1 0 <= 1", "0 1 <= 1", "-1 0 <= 0"), false},
		{square(), poly(2, "1 0 <= 1", "0 1 <= 1", "-1 0 <= 0", "0 -1 <= 1/1000000"), false},
		{square(), poly(2, "0 0 <= -1"), false},
		{poly(2, "1 0 <= 0", "-1 0 <= -1"), poly(2, "0 0 <= -1"), true},
		{poly(2, "1 1 <= 0", "-1 -1 <= 0"), poly(2, "-2 -2 <= 0", "3 3 <= 0"), true},
		{poly(2, "1 1 <= 0", "-1 -1 <= 0"), poly(2, "1 1 <= 0"), false},
		{poly(2), poly(2, "0 0 <= 1"), true},
		{poly(0), poly(0, "<= 1"), true},
		{poly(0), poly(0, "<= -1"), false},
		{poly(0, "<= -2"), poly(0, "<= -1"), true},
	} {
		for _, pair := range [][2]hull.Poly{{c.p, c.q}, {c.q, c.p}} {
			if same, e := hull.Same(pair[0], pair[1]); same != c.want || e != api.OK {
				t.Error("Same of", polyText(pair[0]), "and", polyText(pair[1]), same, e)
			}
		}
	}
	s := source(7)
	equal := 0
	for range 1000 {
		n := 1 + s.below(2)
		p, q := s.poly(n, 2), s.poly(n, 2)
		c, _ := hull.Canon(p)
		d, _ := hull.Canon(q)
		there, _ := hull.Within(p, q)
		back, _ := hull.Within(q, p)
		same, e := hull.Same(p, q)
		if e != api.OK || same != (polyText(c) == polyText(d)) || same != (there.Holds && back.Holds) {
			t.Error("Same of", polyText(p), "and", polyText(q), same)
		}
		if same {
			equal++
		}
	}
	if equal < 50 || equal > 950 {
		t.Error("too few pairs of a kind:", equal)
	}
}

// P2.5: Dim.
func TestDim(t *testing.T) {
	for _, c := range []struct {
		p    hull.Poly
		want int
	}{
		{square(), 2}, {poly(2), 2}, {poly(2, "0 0 <= -1"), -1}, {poly(2, "1 0 <= 1", "-1 0 <= -1"), 1}, {poly(2, "1 0 <= 1", "-1 0 <= -1", "0 1 <= 0", "0 -1 <= 0"), 0},
		{poly(2, "1 0 <= 0", "0 1 <= 0", "-1 -1 <= 0"), 0}, {poly(2, "1 0 <= 0", "0 1 <= 0", "-1 -1 <= -1"), -1}, {poly(0), 0}, {poly(0, "<= -1"), -1}, {poly(0, "<= 0"), 0},
		{poly(3, "1 1 1 <= 1", "-1 -1 -1 <= -1"), 2}, {hull.Poly{N: 12}, 12}, {box(12, 0, 1), 12}, {box(12, 1, 1), 0}, {box(12, 1, 0), -1},
	} {
		got, e := hull.Dim(c.p)
		expectError(t, "Dim of "+polyText(c.p), e, api.OK)
		if got != c.want {
			t.Errorf("Dim of %s: got %d, want %d", polyText(c.p), got, c.want)
		}
	}
	s := source(8)
	for range 500 {
		p := s.poly(s.below(5), 7)
		got, e := hull.Dim(p)
		expectError(t, "Dim", e, api.OK)
		want := -1
		if !isVoid(t, p) {
			want = p.N
			for _, r := range p.Rows {
				_ = r
			}
			want -= rankOfEquations(t, p)
		}
		if got != want {
			t.Errorf("Dim of %s: got %d, want %d", polyText(p), got, want)
		}
	}
}

// rankOfEquations returns the rank of the rows that are equations: of those
// whose left side has the same least as greatest value.
func rankOfEquations(t *testing.T, p hull.Poly) int {
	t.Helper()
	var m exact.Mat
	for _, r := range p.Rows {
		low, high, below, above, e := hull.Bounds(r.A, p)
		if e != api.OK {
			t.Fatal("Bounds", e)
		}
		if below && above && low.Cmp(high) == 0 {
			m = append(m, r.A)
		}
	}
	_, pivots, _ := exact.Rref(m)
	return len(pivots)
}

// P2.6: a canonical description with as many rows as are allowed, and with one
// more, which 200 rows can have: three of them are two equations.
func TestCanonLimit(t *testing.T) {
	p := poly(4, "1 0 0 0 <= 0", "0 1 0 0 <= 0", "-1 -1 0 0 <= 0")
	p.Rows = append(p.Rows, tangents(4, 2, -98, api.MaxRows-4)...)
	c, e := hull.Canon(p)
	if e != api.OK || len(c.Rows) != api.MaxRows || polyText(hull.Poly{Rows: c.Rows[:5]}) != "[1 0 0 0 <= 0][-1 0 0 0 <= 0][0 1 0 0 <= 0][0 -1 0 0 <= 0][0 0 -196 -1 <= 9604]" {
		t.Error("Canon with as many rows as are allowed:", e, len(c.Rows))
	}
	p.Rows = append(p.Rows, tangents(4, 2, 98, 1)...)
	expectError(t, "Check", hull.Check(p), api.OK)
	c, e = hull.Canon(p)
	expectError(t, "Canon with one row too many", e, api.ErrLimit)
	if c.N != 0 || len(c.Rows) != 0 {
		t.Error("a result with an error")
	}
	if same, e := hull.Same(p, p); !same || e != api.OK {
		t.Error("Same of a polyhedron without an allowed description", same, e)
	}
	if dim, e := hull.Dim(p); dim != 2 || e != api.OK {
		t.Error("Dim of a polyhedron without an allowed description", dim, e)
	}
	if _, e = hull.Project(p, []int{0, 1, 2, 3}); e != api.ErrLimit {
		t.Error("Project", e)
	}
	if q, e := hull.Project(p, []int{0, 2, 3}); e != api.OK || len(q.Rows) != 2+197 {
		t.Error("Project", e, len(q.Rows))
	}
	full := valid()["full"]
	if c, e := hull.Canon(full); e != api.OK || len(c.Rows) != 12 {
		t.Error("Canon of many rows:", e, len(c.Rows))
	}
}

func TestCanonErrors(t *testing.T) {
	for i, p := range invalid() {
		if c, e := hull.Canon(p); e != api.ErrArg || len(c.Rows) != 0 || c.N != 0 {
			t.Error("Canon of the invalid polyhedron", i, e)
		}
		if d, e := hull.Dim(p); e != api.ErrArg || d != 0 {
			t.Error("Dim of the invalid polyhedron", i, e)
		}
		for _, q := range []hull.Poly{p, square(), poly(1), poly(0)} {
			same, e := hull.Same(p, q)
			other, f := hull.Same(q, p)
			if e != api.ErrArg || f != api.ErrArg || same || other {
				t.Error("Same with the invalid polyhedron", i, e, f)
			}
		}
	}
	if same, e := hull.Same(poly(1, "0 <= -1"), poly(2, "0 0 <= -1")); e != api.ErrArg || same {
		t.Error("Same of different dimensions:", e)
	}
}
