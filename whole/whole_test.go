package whole_test

import (
	"math"
	"testing"

	"amble/exact"
	"amble/whole"
)

// source gives numbers that look random; the same ones in each run.
type source uint64

func (s *source) next() uint64 {
	*s += 0x9e3779b97f4a7c15
	x := uint64(*s)
	x = (x ^ x>>30) * 0xbf58476d1ce4e5b9
	x = (x ^ x>>27) * 0x94d049bb133111eb
	return x ^ x>>31
}

// number returns an integer of any size, often one near the ends of int64.
func (s *source) number() exact.Q {
	n := exact.Int(int64(s.next()) >> (s.next() % 64))
	switch s.next() % 8 {
	case 0:
		return exact.Int(math.MinInt64 + int64(s.next()%3))
	case 1:
		return exact.Int(math.MaxInt64 - int64(s.next()%3))
	case 2:
		return n.Mul(exact.Int(int64(s.next())))
	case 3:
		return exact.Int(int64(s.next()%5) - 2)
	}
	return n
}

func expect(t *testing.T, call string, got whole.Int, want exact.Q) {
	t.Helper()
	if got.Q().Cmp(want) != 0 || got.Sign() != want.Sign() || got.Cmp(whole.From(want)) != 0 || got.IsOne() != (want.Text() == "1") {
		t.Errorf("%s: got %s, want %s", call, got.Q().Text(), want.Text())
	}
}

// All operations do what those of exact.Q do.
func TestOperations(t *testing.T) {
	s := source(1)
	for range 20000 {
		p, q := s.number(), s.number()
		a, b := whole.From(p), whole.From(q)
		call := p.Text() + " and " + q.Text()
		expect(t, "the number "+p.Text(), a, p)
		expect(t, "the sum of "+call, a.Add(b), p.Add(q))
		expect(t, "the product of "+call, a.Mul(b), p.Mul(q))
		expect(t, "the negative of "+p.Text(), a.Neg(), p.Neg())
		expect(t, "the size of "+p.Text(), a.Abs(), p.Abs())
		if q.Sign() != 0 {
			expect(t, "the quotient of the product of "+call, whole.From(p.Mul(q)).Over(b), p)
		}
		if a.Cmp(b) != p.Cmp(q) {
			t.Error("the order of", call)
		}
		if n, ok := p.Int64(); ok {
			expect(t, "Of "+p.Text(), whole.Of(n), p)
		}
	}
}

// The greatest common divisor divides both, and what is left has none.
func TestGcd(t *testing.T) {
	s := source(2)
	one := exact.Int(1)
	for range 5000 {
		k, p, q := s.number(), s.number(), s.number()
		p, q = p.Mul(k), q.Mul(k)
		g := whole.From(p).Gcd(whole.From(q))
		if p.Sign() == 0 && q.Sign() == 0 {
			expect(t, "the divisor of 0 and 0", g, exact.Q{})
			continue
		}
		left, _ := p.Div(g.Q())
		right, _ := q.Div(g.Q())
		rest := whole.From(left.Num()).Gcd(whole.From(right.Num()))
		if g.Sign() <= 0 || left.Den().Cmp(one) != 0 || right.Den().Cmp(one) != 0 || !rest.IsOne() {
			t.Error("the divisor of", p.Text(), "and", q.Text(), "is", g.Q().Text())
		}
	}
	for _, c := range [][3]int64{{12, 18, 6}, {-12, 18, 6}, {12, -18, 6}, {0, 5, 5}, {-5, 0, 5}, {7, 1, 1}, {math.MinInt64, 6, 2}, {math.MinInt64, math.MinInt64, math.MinInt64}} {
		expect(t, "a divisor", whole.Of(c[0]).Gcd(whole.Of(c[1])), exact.Int(c[2]).Abs())
	}
}

func TestDot(t *testing.T) {
	s := source(3)
	for range 500 {
		n := int(s.next() % 6)
		a, b, want := make([]whole.Int, n), make([]whole.Int, n), exact.Q{}
		for i := range n {
			p, q := s.number(), s.number()
			a[i], b[i] = whole.From(p), whole.From(q)
			want = want.Add(p.Mul(q))
		}
		expect(t, "a sum of products", whole.Dot(a, b), want)
	}
}
