package sense

import (
	"testing"

	"amble/api"
	"amble/exact"
	"amble/hull"
)

// These tests compare the way that the package takes for polyhedra with many
// corners with the one for few, on small ones. They cannot be told apart from
// outside.

// scatter gives numbers that look random; the same ones in each run.
type scatter uint64

func (s *scatter) below(n int) int {
	*s += 0x9e3779b97f4a7c15
	x := uint64(*s)
	x = (x ^ x>>30) * 0xbf58476d1ce4e5b9
	x = (x ^ x>>27) * 0x94d049bb133111eb
	return int((x ^ x>>31) % uint64(n))
}

// solid returns what a few points span, with its canonical description.
func (s *scatter) solid(n int) hull.Poly {
	var points [][]exact.Q
	for range 1 + s.below(6) {
		x := make([]exact.Q, n)
		for i := range x {
			x[i], _ = exact.Of(int64(s.below(9)-4), int64(1+s.below(2)))
		}
		points = append(points, x)
	}
	p, _ := hull.Hull(n, points, nil)
	return p
}

func TestJoinedIsEnclose(t *testing.T) {
	s := scatter(1)
	for round := range 300 {
		n := round % 5
		l := []hull.Poly{s.solid(n), s.solid(n)}
		want, e := enclose(l)
		if e != api.OK {
			t.Fatal("enclose:", e)
		}
		got, e := joined(l[0], l[1])
		if e != api.OK {
			t.Fatal("joined:", e)
		}
		again, _ := hull.Canon(got)
		same, _ := hull.Same(got, want)
		if !same || len(got.Rows) != len(want.Rows) || len(again.Rows) != len(got.Rows) {
			t.Error("joined gives other rows than enclose in the dimension", n)
		}
	}
}

// Tips are all the corners that a convex hull has.
func TestTipsAreEnough(t *testing.T) {
	s := scatter(2)
	fewer := 0
	for round := range 300 {
		n := 1 + round%4
		var l []hull.Poly
		var all [][]exact.Q
		for range 2 + s.below(4) {
			p := s.solid(n)
			corners, _, _ := hull.Corners(p)
			l, all = append(l, p), append(all, corners...)
		}
		found, ok := tips(l)
		want, _ := hull.Hull(n, all, nil)
		got, e := hull.Hull(n, found, nil)
		if same, _ := hull.Same(got, want); !ok || e != api.OK || !same {
			t.Error("the tips of", len(l), "polyhedra of the dimension", n, "span less than they do")
		}
		if len(found) < len(all) {
			fewer++
		}
	}
	if fewer < 100 {
		t.Error("only", fewer, "times fewer tips than corners")
	}
}

// joined, too, notices what is too long.
func TestJoinedAtItsLimit(t *testing.T) {
	var l []hull.Poly
	for i := range int64(2) {
		p := hull.Poly{N: 2}
		for k := range int64(101) {
			turn := exact.Turn(exact.Int(4*k + 2*i - 200))
			p.Rows = append(p.Rows, hull.Row{A: []exact.Q{turn.C, turn.S}, B: exact.Int(1)})
		}
		p, _ = hull.Canon(p)
		l = append(l, p)
	}
	if _, e := joined(l[0], l[1]); e != api.ErrLimit {
		t.Error("joined of two polygons with 101 sides each:", e)
	}
}
