package pose_test

import (
	"slices"
	"testing"

	"amble/api"
	"amble/exact"
	"amble/hull"
	"amble/machine"
	"amble/pose"
)

// mean returns the sum of points with weights; false: a weight is below 0, or
// their sum is not 1.
func mean(points []exact.Point, weights []exact.Q) (exact.Point, bool) {
	var sum exact.Point
	for i, p := range points {
		if weights[i].Sign() < 0 {
			return sum, false
		}
		sum = sum.Add(p.Scale(weights[i]))
	}
	return sum, exact.Sum(weights...).Cmp(num("1")) == 0
}

// isVerdict reports whether v says what it should about a and b, which are not
// empty.
func isVerdict(a, b []exact.Point, v pose.Verdict) bool {
	zero := pointText(exact.Point{})
	if !v.Common {
		for _, p := range a {
			if v.Normal.Dot(p).Cmp(v.Offset) >= 0 {
				return false
			}
		}
		for _, p := range b {
			if v.Normal.Dot(p).Cmp(v.Offset) <= 0 {
				return false
			}
		}
		return len(v.Weights) == 0 && pointText(v.Point) == zero
	}
	if len(v.Weights) != len(a)+len(b) || pointText(v.Normal) != zero || v.Offset.Sign() != 0 {
		return false
	}
	p, ok := mean(a, v.Weights[:len(a)])
	q, fine := mean(b, v.Weights[len(a):])
	return ok && fine && pointText(p) == pointText(v.Point) && pointText(q) == pointText(v.Point)
}

// apart returns a verdict, after a look whether it is one, and proved.
func apart(t *testing.T, a, b []exact.Point) pose.Verdict {
	t.Helper()
	v, e := pose.Apart(a, b)
	call := "Apart of " + pointsText(a) + " and " + pointsText(b)
	expectError(t, call, e, api.OK)
	if !isVerdict(a, b, v) {
		t.Errorf("%s: %s", call, verdictText(v))
	}
	if !pose.ProveApart(a, b, v) {
		t.Errorf("%s is not proved: %s", call, verdictText(v))
	}
	return v
}

// P4.6: lists of points that touch, meet, or are apart.
func TestApart(t *testing.T) {
	for _, c := range []struct {
		a, b   string
		common bool
	}{
		{"0 0, 2 0, 0 2", "1 1, 3 3", true},
		{"0 0, 2 0, 0 2", "2 2, 3 3", false},
		{"0 0, 2 0, 0 2", "1000001/1000000 1, 3 3", false},
		{"0 0", "0 0", true},
		{"0 0", "0 1/1000000000", false},
		{"1 2, 1 2, 1 2", "1 2", true},
		{"0 0, 4 4", "0 4, 4 0", true},
		{"0 0, 4 4", "2 2", true},
		{"0 0, 4 4", "2 1", false},
		{"0 0, 4 4", "5 5, 7 7", false},
		{"0 0, 4 4", "4 4, 7 7", true},
		{"0 0, 4 4", "3 3, 7 7", true},
		{"0 0, 4 4", "0 1, 4 5", false},
		{"0 0, 4 4, 4 0", "0 1, 4 5", false},
		{"0 0, 1 0, 1 1, 0 1", "1 1, 2 1, 2 2, 1 2", true},
		{"0 0, 1 0, 1 1, 0 1", "1 0, 2 0, 2 1, 1 1", true},
		{"0 0, 1 0, 1 1, 0 1", "1 1/2, 2 0, 2 1", true},
		{"0 0, 1 0, 1 1, 0 1", "1000001/1000000 1/2, 2 0, 2 1", false},
		{"-9 -9, 9 -9, 0 9", "0 0, 1 0, 0 1", true},
		{"0 0, 1 0, 0 1", "-9 -9, 9 -9, 0 9", true},
		{"0 0, 3 0, 3 3, 0 3, 1 1, 2 2, 1 2", "4 1, 5 5", false},
		{"0 0, 0 1, 0 2", "1 0, 1 1, 1 2", false},
		{"-1000000000000 0, 1000000000000 1/1000000000000", "0 0", false},
		{"-1000000000000 0, 1000000000000 1/1000000000000", "0 1/2000000000000", true},
	} {
		a, b := points(c.a), points(c.b)
		for range 2 {
			if v := apart(t, a, b); v.Common != c.common {
				t.Errorf("Apart of %s and %s: %s", pointsText(a), pointsText(b), verdictText(v))
			}
			a, b = b, a
		}
	}
	v := apart(t, points("0 0, 2 0, 0 2"), points("1 1, 3 3"))
	expect(t, "the common point", pointText(v.Point), "(1 1)")
}

// P4.6: which lists Apart takes, and which error comes first.
func TestApartErrors(t *testing.T) {
	s := source(46)
	most, more := s.points(api.MaxCloud), s.points(api.MaxCloud+1)
	for _, c := range []struct {
		a, b []exact.Point
		want api.Errno
	}{
		{nil, nil, api.ErrVoid},
		{nil, most, api.ErrVoid},
		{most, nil, api.ErrVoid},
		{[]exact.Point{}, most, api.ErrVoid},
		{nil, more, api.ErrVoid},
		{more, nil, api.ErrVoid},
		{more, most, api.ErrLimit},
		{most, more, api.ErrLimit},
		{more, more, api.ErrLimit},
		{most, most, api.OK},
	} {
		v, e := pose.Apart(c.a, c.b)
		expectError(t, "Apart", e, c.want)
		if c.want != api.OK {
			expect(t, "Apart with an error", verdictText(v), verdictText(pose.Verdict{}))
		}
	}
	apart(t, most, most)
	far := make([]exact.Point, api.MaxCloud)
	for i, p := range most {
		far[i] = p.Add(at("100 100"))
	}
	apart(t, most, far)
}

// P4.6: what ProveApart accepts, and what not.
func TestProveApart(t *testing.T) {
	a, b := "0 0, 2 0, 0 2", "1 1, 3 3"
	for _, c := range []struct {
		a, b string
		v    pose.Verdict
		want bool
	}{
		{a, b, pose.Verdict{Common: true, Point: at("1 1"), Weights: nums("0 1/2 1/2 1 0")}, true},
		{b, a, pose.Verdict{Common: true, Point: at("1 1"), Weights: nums("1 0 0 1/2 1/2")}, true},
		{a, b, pose.Verdict{Common: true, Point: at("1 2"), Weights: nums("0 1/2 1/2 1 0")}, false},
		{a, b, pose.Verdict{Common: true, Point: at("2 1"), Weights: nums("0 1/2 1/2 1 0")}, false},
		{a, b, pose.Verdict{Common: true, Weights: nums("0 1/2 1/2 1 0")}, false},
		{a, b, pose.Verdict{Common: true, Point: at("1 1"), Weights: nums("0 1/2 1/2 1")}, false},
		{a, b, pose.Verdict{Common: true, Point: at("1 1"), Weights: nums("0 1/2 1/2 1 0 0")}, false},
		{a, b, pose.Verdict{Common: true, Point: at("1 1"), Weights: nums("0 1/2 1/2")}, false},
		{a, b, pose.Verdict{Common: true, Point: at("1 1")}, false},
		{a, b, pose.Verdict{Common: true, Point: at("1 1"), Normal: at("1 0"), Weights: nums("0 1/2 1/2 1 0")}, false},
		{a, b, pose.Verdict{Common: true, Point: at("1 1"), Normal: at("0 1"), Weights: nums("0 1/2 1/2 1 0")}, false},
		{a, b, pose.Verdict{Common: true, Point: at("1 1"), Offset: num("1"), Weights: nums("0 1/2 1/2 1 0")}, false},
		{a, b, pose.Verdict{Common: true, Point: at("1/2 1/2"), Weights: nums("1/2 1/4 1/4 1/2 0")}, false}, // of b the sum 1/2
		{a, b, pose.Verdict{Common: true, Point: at("1 1"), Weights: nums("1 1/2 1/2 1 0")}, false},         // of a the sum 2
		{a, b, pose.Verdict{Common: true, Point: at("0 0"), Weights: nums("1 0 0 0 0")}, false},
		{a, b, pose.Verdict{Common: true, Point: at("0 0"), Weights: nums("0 0 0 0 0")}, false},
		{a, b, pose.Verdict{Common: true, Point: at("2 2"), Weights: nums("-1 1 1 1/2 1/2")}, false},
		{a, "1/2 1/2, 3 3", pose.Verdict{Common: true, Point: at("-2 -2"), Weights: nums("3 -1 -1 2 -1")}, false},
		{"0 0, 2 2", "3 3, -1 -1", pose.Verdict{Common: true, Point: at("0 0"), Weights: nums("1 0 1/4 3/4")}, true},
		{"0 0, 2 2", "3 3, 6 6", pose.Verdict{Common: true, Point: at("0 0"), Weights: nums("1 0 2 -1")}, false},
		{a, b, pose.Verdict{}, false},
		{a, b, pose.Verdict{Normal: at("1 1"), Offset: num("2")}, false}, // (1 1) and (2 0) are on the line
		{a, "2 2, 3 3", pose.Verdict{Normal: at("1 1"), Offset: num("3")}, true},
		{"2 2, 3 3", a, pose.Verdict{Normal: at("-1 -1"), Offset: num("-3")}, true},
		{"2 2, 3 3", a, pose.Verdict{Normal: at("1 1"), Offset: num("3")}, false},
		{a, "2 2, 3 3", pose.Verdict{Normal: at("1 1"), Offset: num("2")}, false},
		{a, "2 2, 3 3", pose.Verdict{Normal: at("1 1"), Offset: num("4")}, false},
		{a, "2 2, 3 3", pose.Verdict{Normal: at("1 1"), Offset: num("5")}, false},
		{a, "2 2, 3 3", pose.Verdict{Normal: at("1 1"), Offset: num("1")}, false},
		{a, "2 2, 3 3", pose.Verdict{Normal: at("1 1"), Offset: num("3"), Point: at("1 0")}, false},
		{a, "2 2, 3 3", pose.Verdict{Normal: at("1 1"), Offset: num("3"), Point: at("0 1")}, false},
		{a, "2 2, 3 3", pose.Verdict{Normal: at("1 1"), Offset: num("3"), Weights: nums("0 0 0 0 0")}, false},
		{a, "2 2, 3 3", pose.Verdict{Normal: at("1 1"), Offset: num("3"), Weights: []exact.Q{}}, true},
		{a, "2 2, 3 3", pose.Verdict{Common: true, Normal: at("1 1"), Offset: num("3")}, false},
		{a, b, pose.Verdict{Point: at("1 1"), Weights: nums("0 1/2 1/2 1 0")}, false},
	} {
		if got := pose.ProveApart(points(c.a), points(c.b), c.v); got != c.want {
			t.Errorf("ProveApart of %s and %s with %s: %v", c.a, c.b, verdictText(c.v), got)
		}
	}
}

// P4.6: there is no verdict about an empty list, and one about any other.
func TestProveApartSizes(t *testing.T) {
	one := points("1 1")
	for _, v := range []pose.Verdict{
		{}, {Normal: at("1 1"), Offset: num("3")}, {Normal: at("1 1"), Offset: num("1")}, {Common: true}, {Common: true, Point: at("1 1"), Weights: nums("1")},
	} {
		if pose.ProveApart(nil, nil, v) || pose.ProveApart(one, nil, v) || pose.ProveApart(nil, one, v) || pose.ProveApart([]exact.Point{}, one, v) {
			t.Error("ProveApart of an empty list:", verdictText(v))
		}
	}
	long := slices.Repeat(one, 3*api.MaxCloud)
	weights := append(make([]exact.Q, len(long)), num("1"))
	weights[len(long)-1] = num("1")
	if !pose.ProveApart(long, one, pose.Verdict{Common: true, Point: at("1 1"), Weights: weights}) {
		t.Error("ProveApart of a long list")
	}
	if !pose.ProveApart(points("3 3"), long, pose.Verdict{Normal: at("-1 -1"), Offset: num("-3")}) {
		t.Error("ProveApart of a long list that is apart")
	}
}

// areApart reports whether two lists have no common point in their convex
// hulls, by the rows of these.
func areApart(t *testing.T, a, b []exact.Point) bool {
	t.Helper()
	var shapes []hull.Poly
	for _, l := range [][]exact.Point{a, b} {
		var corners [][]exact.Q
		for _, p := range l {
			corners = append(corners, []exact.Q{p.X, p.Z})
		}
		shape, e := hull.Hull(2, corners, nil)
		expectError(t, "Hull", e, api.OK)
		shapes = append(shapes, shape)
	}
	meet, e := hull.Meet(shapes...)
	expectError(t, "Meet", e, api.OK)
	_, e = hull.Least(meet)
	return e == api.ErrVoid
}

// P4.6 and P4.13: lists of points on a small grid, many of which just touch.
func TestApartOfMany(t *testing.T) {
	s := source(47)
	touching := 0
	for range 600 {
		lists := [2][]exact.Point{}
		for i := range lists {
			for range 1 + s.below(5) {
				lists[i] = append(lists[i], exact.Point{X: s.small(3), Z: s.small(3)})
			}
		}
		a, b := lists[0], lists[1]
		v := apart(t, a, b)
		if v.Common == areApart(t, a, b) {
			t.Errorf("Apart of %s and %s: %s", pointsText(a), pointsText(b), verdictText(v))
		}
		if v.Common {
			touching++
		}
		if w := apart(t, b, a); w.Common != v.Common {
			t.Errorf("Apart of %s and %s: another verdict with the lists exchanged", pointsText(a), pointsText(b))
		}
		v.Common = !v.Common
		if pose.ProveApart(a, b, v) {
			t.Error("ProveApart accepts the opposite:", verdictText(v))
		}
	}
	if touching < 100 || touching > 500 {
		t.Error(touching, "of 600 have a common point")
	}
}

// box returns a body with the shape of a square from -1 to 1, hung at a
// place.
func box(name string, parent int, place string) machine.Body {
	return machine.Body{Name: name, Parent: parent, At: at(place), Mass: num("1"), Inertia: num("1"), Shape: points("-1 -1, 1 -1, 1 1, -1 1")}
}

// P4.7: which pairs collide: not bodies with a hinge between them, or without
// a shape; those that touch do.
func TestCollisions(t *testing.T) {
	bare := box("bare", 0, "0 0")
	bare.Shape = nil
	for _, c := range []struct {
		bodies []machine.Body
		joints string
		want   string
	}{
		{[]machine.Body{box("a", -1, "0 0"), box("b", 0, "1 0")}, "0", ""},
		{[]machine.Body{box("a", -1, "0 0"), box("b", 0, "1 0"), box("c", 1, "0 1")}, "0 0", "0 2"},
		{[]machine.Body{box("a", -1, "0 0"), box("b", 0, "1 0"), box("c", 1, "1 0")}, "0 0", "0 2"},
		{[]machine.Body{box("a", -1, "0 0"), box("b", 0, "1 0"), box("c", 1, "1 2")}, "0 0", "0 2"},
		{[]machine.Body{box("a", -1, "0 0"), box("b", 0, "1 0"), box("c", 1, "1000001/1000000 2")}, "0 0", ""},
		{[]machine.Body{box("a", -1, "0 0"), box("b", 0, "1 0"), box("c", 0, "3 0")}, "0 0", "1 2"},
		{[]machine.Body{box("a", -1, "0 0"), box("b", 0, "-2 0"), box("c", 0, "2 0")}, "0 0", ""},
		{[]machine.Body{box("a", -1, "0 0"), bare, box("c", 1, "0 0"), box("d", 2, "0 0")}, "0 0 0", "0 2, 0 3"},
		{[]machine.Body{box("a", -1, "0 0"), box("b", 0, "0 0"), box("c", 1, "0 0"), box("d", 2, "0 0")}, "0 0 0", "0 2, 0 3, 1 3"},
		{[]machine.Body{box("a", -1, "0 0"), box("b", 0, "0 0"), box("c", 0, "0 0"), box("d", 1, "0 0")}, "0 0 0", "0 3, 1 2, 2 3"},
		// Turned by an eighth of a turn, nearly, the square reaches further.
		{[]machine.Body{box("a", -1, "0 0"), box("b", 0, "0 9"), box("c", 1, "12/5 -9")}, "0 0", ""},
		{[]machine.Body{box("a", -1, "0 0"), box("b", 0, "0 9"), box("c", 1, "12/5 -9")}, "0 2/5", "0 2"},
		// One lies within another one.
		{[]machine.Body{box("a", -1, "0 0"), bare, {Name: "c", Parent: 1, Mass: num("1"), Inertia: num("1"), Shape: points("0 0, 1/2 0, 0 1/2")}}, "0 0", "0 2"},
		{[]machine.Body{box("a", -1, "0 0")}, "", ""},
	} {
		m := machine.Machine{Name: "boxes", Bodies: c.bodies}
		for _, p := range []pose.Pose{{Joints: nums(c.joints)}, {At: at("5 7"), Turn: num("3/8"), Joints: nums(c.joints)}} {
			pairs, e := pose.Collisions(m, p)
			expectOK(t, "Collisions", pairsText(pairs), e, c.want)
		}
	}
	pairs, e := pose.Collisions(walker(), standing("0 0"))
	expectOK(t, "Collisions without shapes", pairsText(pairs), e, "")
}

// P4.7: the pairs are those of the convex hulls of the shapes' world points.
func TestCollisionsOfMany(t *testing.T) {
	s := source(48)
	some, none := 0, 0
	for range 100 {
		m := s.machine(6)
		for i, b := range m.Bodies {
			m.Bodies[i].At = b.At.Scale(num("1/4"))
		}
		p := s.pose(m)
		shapes, e := pose.Shapes(m, p)
		expectError(t, "Shapes", e, api.OK)
		var want [][2]int
		for i := range shapes {
			for j := i + 1; j < len(shapes); j++ {
				if len(shapes[i]) == 0 || len(shapes[j]) == 0 || m.Bodies[j].Parent == i {
					continue
				}
				if areApart(t, shapes[i], shapes[j]) {
					none++
				} else {
					some++
					want = append(want, [2]int{i, j})
				}
			}
		}
		pairs, e := pose.Collisions(m, p)
		expectOK(t, "Collisions", pairsText(pairs), e, pairsText(want))
	}
	if some < 20 || none < 20 {
		t.Error(some, "pairs collide,", none, "do not")
	}
}

func TestCollisionsErrors(t *testing.T) {
	m := machine.Machine{Name: "boxes", Bodies: []machine.Body{box("a", -1, "0 0"), box("b", 0, "1 0"), box("c", 1, "0 1")}}
	_, e := pose.Collisions(m, pose.Pose{Joints: nums("0")})
	expectError(t, "Collisions in a pose that does not fit", e, api.ErrArg)
	m.Bodies[2].Name = "a"
	_, e = pose.Collisions(m, pose.Pose{Joints: nums("0")})
	expectError(t, "Collisions of a wrong machine", e, api.ErrTwice)
}
