package pose_test

import (
	"testing"

	"amble/api"
	"amble/exact"
	"amble/hull"
	"amble/machine"
	"amble/pose"
)

func ground(s string) pose.Ground { return pose.Ground(points(s)) }

// wide returns a ground with so many points.
func wide(count int) pose.Ground {
	g := pose.Ground{}
	for i := range count {
		g = append(g, exact.Point{X: exact.Int(int64(i)), Z: exact.Int(int64(i * i))})
	}
	return g
}

// wrong returns grounds that are not valid.
func wrong() []pose.Ground {
	return []pose.Ground{
		nil, {}, ground("0 0"), ground("0 0, 0 0"), ground("0 0, 0 1"), ground("1 0, 0 0"),
		ground("0 0, 1 0, 1 2"), ground("0 0, 0 1, 1 2"), ground("0 0, 2 0, 1 0, 3 0"), ground("0 0, 1 0, 2 0, 2 0"),
		wide(api.MaxGround + 1), wide(1),
	}
}

// P4.8: which grounds are valid.
func TestCheckGround(t *testing.T) {
	for _, g := range []pose.Ground{ground("0 0, 1 0"), ground("-5 9, -4 -9, 0 9"), ground("0 0, 1/1000000000000 5"), wide(2), wide(api.MaxGround)} {
		expectError(t, "CheckGround of "+pointsText(g), pose.CheckGround(g), api.OK)
	}
	for _, g := range wrong() {
		expectError(t, "CheckGround of "+pointsText(g), pose.CheckGround(g), api.ErrArg)
		height, e := pose.Height(g, num("1/2"))
		expectError(t, "Height of "+pointsText(g), e, api.ErrArg)
		along, f := pose.Along(g, num("1/2"))
		expectError(t, "Along of "+pointsText(g), f, api.ErrArg)
		expect(t, "with an error", height.Text()+pointText(along), "0(0 0)")
	}
}

// P4.8: heights and directions on the sides, at the corners, at the ends and
// beyond them.
func TestHeight(t *testing.T) {
	for _, c := range []struct{ ground, x, height, along string }{
		{"0 0, 2 1, 3 1", "1", "1/2", "2 1"},
		{"0 0, 2 1, 3 1", "2", "1", "1 0"},
		{"0 0, 2 1, 3 1", "-1", "0", "1 0"},
		{"1 5, 3 1, 4 3, 6 4", "-100", "5", "1 0"},
		{"1 5, 3 1, 4 3, 6 4", "999/1000", "5", "1 0"},
		{"1 5, 3 1, 4 3, 6 4", "1", "5", "2 -4"},
		{"1 5, 3 1, 4 3, 6 4", "3/2", "4", "2 -4"},
		{"1 5, 3 1, 4 3, 6 4", "2999/1000", "501/500", "2 -4"},
		{"1 5, 3 1, 4 3, 6 4", "3", "1", "1 2"},
		{"1 5, 3 1, 4 3, 6 4", "10/3", "5/3", "1 2"},
		{"1 5, 3 1, 4 3, 6 4", "4", "3", "2 1"},
		{"1 5, 3 1, 4 3, 6 4", "5", "7/2", "2 1"},
		{"1 5, 3 1, 4 3, 6 4", "5999/1000", "7999/2000", "2 1"},
		{"1 5, 3 1, 4 3, 6 4", "6", "4", "1 0"},
		{"1 5, 3 1, 4 3, 6 4", "6001/1000", "4", "1 0"},
		{"1 5, 3 1, 4 3, 6 4", "1000000", "4", "1 0"},
		{"-1/2 -1/3, 1/3 1/2", "0", "1/6", "5/6 5/6"},
	} {
		height, e := pose.Height(ground(c.ground), num(c.x))
		expectOK(t, "Height of "+c.ground+" at "+c.x, height.Text(), e, c.height)
		along, e := pose.Along(ground(c.ground), num(c.x))
		expectOK(t, "Along of "+c.ground+" at "+c.x, pointText(along), e, pointText(at(c.along)))
	}
	last := exact.Int(api.MaxGround - 1)
	height, e := pose.Height(wide(api.MaxGround), last.Sub(num("1/2")))
	expectOK(t, "Height of as many points as there may be", height.Text(), e, "7813/2")
}

// height is the height of a ground: the sum of what each side adds to that of
// its first point, up to x.
func height(g pose.Ground, x exact.Q) exact.Q {
	sum := g[0].Z
	for i := 1; i < len(g); i++ {
		width, rise := g[i].X.Sub(g[i-1].X), g[i].Z.Sub(g[i-1].Z)
		done := exact.Max(exact.Q{}, exact.Min(width, x.Sub(g[i-1].X)))
		part, _ := done.Div(width)
		sum = sum.Add(rise.Mul(part))
	}
	return sum
}

// P4.8: grounds that look random; the direction leads along the ground.
func TestHeightOfMany(t *testing.T) {
	s := source(48)
	for range 200 {
		g := s.ground()
		x := s.number()
		got, e := pose.Height(g, x)
		expectOK(t, "Height", got.Text(), e, height(g, x).Text())
		along, e := pose.Along(g, x)
		expectError(t, "Along", e, api.OK)
		step := along.Scale(num("1/1000000000"))
		expect(t, "the height a step further", height(g, x.Add(step.X)).Text(), height(g, x).Add(step.Z).Text())
	}
}

// P4.9: the gaps of feet with one point, and with two.
func TestGaps(t *testing.T) {
	m := walker()
	m.Feet = []machine.Foot{{Body: 2, Points: points("0 -2, 1 -2")}, {Body: 0, Points: points("0 1")}, {Body: 1, Points: points("5 0, 0 0")}}
	g := ground("0 0, 2 1, 3 1")
	for joints, want := range map[string]string{
		"0 0": "[0 -1/2][5][3 4]",
		"1 0": "[3 4][5][9 4]",
		"0 1": "[1 2][5][3 4]",
	} {
		gaps, e := pose.Gaps(m, standing(joints), g)
		expectOK(t, "Gaps with the joints "+joints, matText(gaps), e, want)
	}
	gaps, e := pose.Gaps(walker(), standing("0 0"), g)
	expectOK(t, "Gaps without feet", matText(gaps), e, "")
}

func TestGapsOfBranches(t *testing.T) {
	m, p := legged()
	s := source(49)
	for range 20 {
		g := s.ground()
		var want [][]exact.Q
		for _, f := range m.Feet {
			var l []exact.Q
			for _, point := range f.Points {
				point = world(m, p, f.Body, point)
				l = append(l, point.Z.Sub(height(g, point.X)))
			}
			want = append(want, l)
		}
		gaps, e := pose.Gaps(m, p, g)
		expectOK(t, "Gaps", matText(gaps), e, matText(want))
	}
}

// shaped returns a machine that is a trunk with a shape.
func shaped(shape []exact.Point) machine.Machine {
	return machine.Machine{Name: "block", Bodies: []machine.Body{{Name: "trunk", Parent: -1, Mass: num("1"), Inertia: num("1"), Shape: shape}}}
}

// P4.9: shapes that stand on the ground, and that have sunk into it.
func TestSunk(t *testing.T) {
	square, kite, tip := "0 0, 2 0, 2 2, 0 2", "0 1, 1 0, 3 1, 1 2", "1 0, 3 2, -1 2"
	for _, c := range []struct {
		shape, ground string
		sunk          bool
	}{
		{square, "-5 0, 5 0", false},
		{square, "-5 -1, 5 -1", false},
		{square, "-5 1/1000, 5 1/1000", true},
		{square, "-5 9, 5 9", true},
		// A corner of the ground below the lowest side, and within the shape.
		{square, "-1 -1, 1 0, 3 -1", false},
		{square, "-1 -1, 1 1/1000, 3 -1", true},
		{square, "-1 -1, 1 1, 3 -1", true},
		{square, "1/2 -9, 1 9, 3/2 -9", true}, // through and through
		{square, "-2 -1, 0 0, 2 0, 4 -1", false},
		{square, "-2 -1, 0 0, 1 -5, 2 0, 4 -1", false},
		// The corner of the ground is beside the shape.
		{square, "-2 0, -1 9, 0 0, 2 0, 3 9", false},
		{square, "-2 0, -1 9, 1/1000 0, 3 0", true},
		{square, "-2 0, 1999/1000 0, 3 9", true},
		// The shape is beyond the ends of the ground.
		{square, "5 0, 6 9", false},
		{square, "5 1/1000, 6 -9", true},
		{square, "-6 9, -5 0", false},
		{square, "-6 -9, -5 1/1000", true},
		{square, "1 -1, 6 -9", false},
		{square, "1 0, 6 -9", false},
		{square, "1 1/1000, 6 -9", true},
		{square, "-6 -9, 1 1/1000", true},
		{square, "-6 -9, 1 0", false},
		// Sides that are not level: of the shape, and of the ground.
		{kite, "0 1, 1 0, 3 1", false},
		{kite, "0 1, 1 0, 2 1/2, 3 0", false},
		{kite, "0 1, 1 0, 2 501/1000, 3 0", true},
		{kite, "0 0, 1/2 1/2, 1 -1, 3 -1", false},
		{kite, "0 0, 1/2 501/1000, 1 -1, 3 -1", true},
		{kite, "0 1001/1000, 1 -1, 3 -1", true},
		{kite, "-3 0, 9 0", false},
		{tip, "-3 0, 9 0", false},
		{tip, "0 1, 1 0, 2 1", false},
		{tip, "0 9/10, 1 -1/10, 2 9/10", false},
		{tip, "0 101/100, 1 0, 2 1", true},
		{tip, "0 1, 1 0, 2 101/100", true},
		{tip, "0 2, 1 0, 2 2", true},
		{tip, "-1 2, 1 0, 3 2", false},
		{tip, "-2 3, 1 0, 4 3", false},
	} {
		want := map[bool]string{true: "0", false: ""}[c.sunk]
		bodies, e := pose.Sunk(shaped(points(c.shape)), pose.Pose{}, ground(c.ground))
		expectOK(t, "Sunk: "+c.shape+" in "+c.ground, intsText(bodies), e, want)
		// The same with forward and backward exchanged.
		m, e := machine.Mirror(shaped(points(c.shape)))
		expectError(t, "Mirror", e, api.OK)
		bodies, e = pose.Sunk(m, pose.Pose{}, mirrored(ground(c.ground)))
		expectOK(t, "Sunk, mirrored: "+c.shape+" in "+c.ground, intsText(bodies), e, want)
	}
}

// mirrored returns the ground with forward and backward exchanged.
func mirrored(g pose.Ground) pose.Ground {
	m := pose.Ground{}
	for i := range g {
		p := g[len(g)-1-i]
		m = append(m, exact.Point{X: p.X.Neg(), Z: p.Z})
	}
	return m
}

// pieces returns the parts of the plane below the ground, and at it: each has
// one side of the ground above it, or one of its level ends. Its last row says
// that it is below.
func pieces(g pose.Ground) []hull.Poly {
	row := func(x, z, b exact.Q) hull.Row { return hull.Row{A: []exact.Q{x, z}, B: b} }
	var zero exact.Q
	one := num("1")
	first, last := g[0], g[len(g)-1]
	l := []hull.Poly{
		{N: 2, Rows: []hull.Row{row(one, zero, first.X), row(zero, one, first.Z)}},
		{N: 2, Rows: []hull.Row{row(one.Neg(), zero, last.X.Neg()), row(zero, one, last.Z)}},
	}
	for i := 1; i < len(g); i++ {
		from, to := g[i-1], g[i]
		along := to.Sub(from)
		l = append(l, hull.Poly{N: 2, Rows: []hull.Row{
			row(one.Neg(), zero, from.X.Neg()), row(one, zero, to.X), row(along.Z.Neg(), along.X, along.Cross(from)),
		}})
	}
	return l
}

// isSunk reports whether a shape reaches below the ground: whether it has a
// point in one of the pieces for which the last row is not an equation.
func isSunk(t *testing.T, shape []exact.Point, g pose.Ground) bool {
	t.Helper()
	var corners [][]exact.Q
	for _, p := range shape {
		corners = append(corners, []exact.Q{p.X, p.Z})
	}
	body, e := hull.Hull(2, corners, nil)
	expectError(t, "Hull", e, api.OK)
	for _, piece := range pieces(g) {
		both, e := hull.Meet(body, piece)
		expectError(t, "Meet", e, api.OK)
		top := piece.Rows[len(piece.Rows)-1]
		low, _, _, _, e := hull.Bounds(top.A, both)
		if e == api.OK && low.Cmp(top.B) < 0 {
			return true
		}
	}
	return false
}

// P4.9: any shapes and grounds, against the parts of the plane below them.
func TestSunkOfMany(t *testing.T) {
	s := source(50)
	some, none := 0, 0
	for range 150 {
		m := s.machine(4)
		p, g := s.pose(m), s.ground()
		shapes, e := pose.Shapes(m, p)
		expectError(t, "Shapes", e, api.OK)
		var want []int
		for i, shape := range shapes {
			switch {
			case len(shape) == 0:
			case isSunk(t, shape, g):
				want = append(want, i)
				some++
			default:
				none++
			}
		}
		bodies, e := pose.Sunk(m, p, g)
		expectOK(t, "Sunk", intsText(bodies), e, intsText(want))
	}
	if some < 50 || none < 50 {
		t.Error(some, "bodies have sunk,", none, "have not")
	}
}

// P4.9: feet do not count for Sunk, nor bodies without a shape.
func TestSunkWithoutShapes(t *testing.T) {
	m := walker()
	m.Feet = []machine.Foot{{Body: 2, Points: points("0 -9")}}
	bodies, e := pose.Sunk(m, standing("0 0"), ground("0 100, 1 100"))
	expectOK(t, "Sunk without shapes", intsText(bodies), e, "")
	m.Bodies[2].Shape = points("-1 -2, 1 -2, 0 0")
	bodies, e = pose.Sunk(m, standing("0 0"), ground("-1 0, 1 0"))
	expectOK(t, "Sunk of a shin that stands", intsText(bodies), e, "")
	bodies, e = pose.Sunk(m, standing("0 0"), ground("0 1/9, 1 0"))
	expectOK(t, "Sunk of a shin", intsText(bodies), e, "2")
	m.Bodies[0].Shape = points("-1 -4, 1 -4, 0 0")
	bodies, e = pose.Sunk(m, standing("0 0"), ground("0 1/9, 1 0"))
	expectOK(t, "Sunk of a shin and the trunk", intsText(bodies), e, "0 2")
}

// The errors of Gaps and Sunk, in the order of the chapter.
func TestGroundErrors(t *testing.T) {
	twice := walker()
	twice.Bodies[2].Name = "leg"
	good := ground("0 0, 1 0")
	for _, bad := range wrong() {
		for _, c := range []struct {
			m    machine.Machine
			p    pose.Pose
			g    pose.Ground
			want api.Errno
		}{
			{twice, standing("0"), bad, api.ErrTwice},
			{twice, standing("0 0"), good, api.ErrTwice},
			{machine.Machine{}, standing("0 0"), bad, api.ErrName},
			{walker(), standing("0"), good, api.ErrArg},
			{walker(), standing("0 0"), bad, api.ErrArg},
			{walker(), standing("0 0"), good, api.OK},
		} {
			_, e := pose.Gaps(c.m, c.p, c.g)
			expectError(t, "Gaps", e, c.want)
			_, e = pose.Sunk(c.m, c.p, c.g)
			expectError(t, "Sunk", e, c.want)
		}
	}
	bodies, e := pose.Sunk(shaped(points("0 0, 1 0, 0 1")), pose.Pose{}, wide(api.MaxGround+1))
	expectError(t, "Sunk in a ground with too many points", e, api.ErrArg)
	expect(t, "Sunk with an error", intsText(bodies), "")
}
