package pose_test

import (
	"math"
	"slices"
	"testing"

	"amble/api"
	"amble/exact"
	"amble/machine"
	"amble/pose"
)

// bent returns the walker with a knee at this place, and limits that are wide.
func bent(knee string) machine.Machine {
	m := walker()
	m.Bodies[2].At = at(knee)
	for i := 1; i < 3; i++ {
		m.Bodies[i].Low, m.Bodies[i].High = num("-1000"), num("1000")
	}
	return m
}

// foothold is a target for the point of the walker's shin, which hangs at the
// knee; all is seen from the hip, which is at (0, 4).
type foothold struct{ knee, point, target string }

func (f foothold) bends() ([]pose.Bend, api.Errno) {
	return pose.Bends(bent(f.knee), standing("0 0"), 2, at(f.point), at(f.target).Add(at("0 4")))
}

func (f foothold) text() string { return f.knee + "; " + f.point + "; " + f.target }

// expectBends compares bends, given as texts of A and B, one after the other.
func expectBends(t *testing.T, call string, bends []pose.Bend, e api.Errno, want ...string) {
	t.Helper()
	expectError(t, call, e, api.OK)
	if 2*len(bends) != len(want) {
		t.Fatalf("%s: %d bends: %s", call, len(bends), bendsText(bends))
	}
	for i, b := range bends {
		for k, s := range []exact.Surd{b.A, b.B} {
			order, e := s.Cmp(surd(want[2*i+k]))
			if order != 0 || e != api.OK {
				t.Errorf("%s: got %s, want %v", call, bendsText(bends), want)
			}
			expectNormal(t, call, s)
		}
	}
}

func expectNormal(t *testing.T, call string, s exact.Surd) {
	t.Helper()
	normal, e := s.Normal()
	expectOK(t, call+": the normal form", surdText(s), e, surdText(normal))
}

// P4.4: the examples, with the limits -1 and 1 of both hinges.
func TestBendsOfExamples(t *testing.T) {
	for _, c := range []struct{ at, target, want string }{
		{"0 -2", "2 2", "[1 0 0][-1 0 0]true;[0 0 0][1 0 0]true;"},
		{"0 -2", "0 0", "[0 0 0][0 0 0]true;"},
		{"0 -2", "0 -1", ""},
		{"0 -2", "0 4", ""},
		{"0 -2", "0 2", "[0 1/12 48][0 -1/4 48]false;[0 -1/12 48][0 1/4 48]false;"},
	} {
		bends, e := pose.Bends(walker(), standing("0 0"), 2, at(c.at), at(c.target))
		expectOK(t, "Bends to "+c.target, bendsText(bends), e, c.want)
		can, e := pose.Reachable(walker(), standing("0 0"), 2, at(c.at), at(c.target))
		expectError(t, "Reachable", e, api.OK)
		if want := c.target == "2 2" || c.target == "0 0"; can != want {
			t.Error("Reachable:", c.target, can)
		}
	}
	bends, e := pose.Bends(walker(), standing("0 0"), 2, at("2 0"), at("0 4"))
	expectError(t, "Bends to the hip", e, api.ErrMany)
	expect(t, "Bends to the hip", bendsText(bends), "")
	can, e := pose.Reachable(walker(), standing("0 0"), 2, at("2 0"), at("0 4"))
	expectError(t, "Reachable, the hip", e, api.ErrMany)
	if can {
		t.Error("Reachable, the hip")
	}
}

// P4.4: footholds with no, one or two postures.
func TestBends(t *testing.T) {
	for _, c := range []struct {
		foothold
		want []string
	}{
		// Two postures, one on each side of the line to the target.
		{foothold{"0 -2", "0 -2", "-2 -2"}, []string{"0", "-1", "-1", "1"}},
		{foothold{"0 -3", "0 -4", "0 -5"}, []string{"1/2", "-1", "-1/2", "1"}},
		{foothold{"3 0", "4 0", "5 0"}, []string{"1/2", "-1", "-1/2", "1"}},
		// The two circles touch: from outside, from inside, from around.
		{foothold{"0 -3", "0 -1", "0 -4"}, []string{"0", "0"}},
		{foothold{"0 -3", "0 -1", "4 0"}, []string{"1", "0"}},
		{foothold{"0 -3", "0 1", "0 -2"}, []string{"0", "0"}},
		{foothold{"0 -1", "0 3", "0 2"}, []string{"0", "0"}},
		{foothold{"3 0", "0 -1", "4 0"}, []string{"0", "1"}},
		// Too far, and too near.
		{foothold{"0 -3", "0 -1", "0 -4001/1000"}, nil},
		{foothold{"0 -3", "0 -1", "0 -1999/1000"}, nil},
		{foothold{"0 -1", "0 -3", "1999/1000 0"}, nil},
		{foothold{"0 -3", "0 -1", "0 0"}, nil},
		// The knee would be turned by half a turn: in the only posture, in one.
		{foothold{"0 -3", "0 -1", "0 -2"}, nil},
		{foothold{"0 -1", "0 -3", "2 0"}, nil},
		{foothold{"0 -2", "2 0", "2 -2"}, []string{"0", "0"}},
		// The hip would be turned by half a turn: in one posture, in the only one.
		{foothold{"0 -2", "0 -2", "-2 2"}, []string{"-1", "-1"}},
		{foothold{"0 -2", "0 -2", "0 4"}, nil},
		{foothold{"0 -2", "0 -3", "0 5"}, nil},
		// The hip in one posture, the knee in the other one.
		{foothold{"0 -2", "2 0", "-2 2"}, nil},
		// The point is the knee, and as far away as no target is.
		{foothold{"0 -2", "0 0", "0 -3"}, nil},
		{foothold{"0 -2", "0 0", "0 0"}, nil},
		{foothold{"0 0", "0 -2", "0 3"}, nil},
		{foothold{"0 0", "0 -2", "0 0"}, nil},
		{foothold{"0 0", "0 0", "1 0"}, nil},
		// The point is the knee, and the hip would be turned by half a turn.
		{foothold{"0 -2", "0 0", "0 2"}, nil},
		{foothold{"3 4", "0 0", "-3 -4"}, nil},
		// The point is at the hip only if the knee is turned by half a turn.
		{foothold{"0 -2", "0 -2", "0 0"}, nil},
		{foothold{"1 -2", "1 -2", "0 0"}, nil},
	} {
		bends, e := c.bends()
		expectBends(t, c.text(), bends, e, c.want...)
	}
}

// P4.4: footholds with infinitely many postures.
func TestBendsMany(t *testing.T) {
	for _, f := range []foothold{
		{"0 -2", "2 0", "0 0"},    // the hip is free
		{"0 -2", "0 2", "0 0"},    // also with the knee at 0
		{"3 4", "0 5", "0 0"},     // and with another angle of it
		{"0 -2", "0 0", "0 -2"},   // the knee is free
		{"0 -2", "0 0", "2 0"},    // also with the hip at 1
		{"3 4", "0 0", "3 -4"},    // and with another angle of it
		{"0 0", "0 -2", "0 -2"},   // both turn the same point about the same place
		{"0 0", "0 -2", "0 2"},    // also to the opposite one
		{"0 0", "3 4", "0 -5"},    // and to any other
		{"0 0", "0 0", "0 0"},     // nothing moves
		{"0 0", "1/2 0", "0 1/2"}, // numbers that are no integers
	} {
		bends, e := f.bends()
		expectError(t, f.text(), e, api.ErrMany)
		expect(t, f.text(), bendsText(bends), "")
	}
}

// P4.4: half tangents with roots, of numbers that are no integers.
func TestBendsWithRoots(t *testing.T) {
	// The sides are 2, 2 and 3: the knee has the cosine 1/8.
	bends, e := foothold{"0 -2", "0 -2", "0 -3"}.bends()
	expectBends(t, "the sides 2, 2, 3", bends, e, "0 1/7 7", "0 -1/3 7", "0 -1/7 7", "0 1/3 7")
	// The same, smaller: the half tangents stay.
	bends, e = foothold{"0 -2/7", "0 -2/7", "0 -3/7"}.bends()
	expectBends(t, "the sides 2/7, 2/7, 3/7", bends, e, "0 1/7 7", "0 -1/3 7", "0 -1/7 7", "0 1/3 7")
	// The point hangs to the side: the knee has the sine -1/8.
	bends, e = foothold{"0 -2", "2 0", "0 -3"}.bends()
	expectBends(t, "a point to the side", bends, e, "0 1/21 63", "-8 -1 63", "0 -1/21 63", "-8 1 63")
}

// P4.4: bends stand in the order of B, whatever A is.
func TestBendsRise(t *testing.T) {
	s := source(41)
	two := 0
	for range 300 {
		f := bent("0 -2")
		f.Bodies[2].At = s.point()
		bends, e := pose.Bends(f, s.pose(f), 2, s.point(), s.point())
		if e != api.OK || len(bends) < 2 {
			continue
		}
		two++
		if order, _ := bends[0].B.Cmp(bends[1].B); order >= 0 || len(bends) > 2 {
			t.Error("bends do not rise:", bendsText(bends))
		}
	}
	if two < 50 {
		t.Error("only", two, "times two bends")
	}
}

// P4.4: the joints of the two hinges do not count, those of others do.
func TestBendsOfOtherPoses(t *testing.T) {
	m, p := legged()
	m.Bodies[5].Low, m.Bodies[5].High = num("-9"), num("9")
	m.Bodies[6].Low, m.Bodies[6].High = num("-9"), num("9")
	for _, joints := range []string{"1/3 1/2 -2 -3/4 6 -1/4", "9 9 9 -3/4 0 0", "0 0 0 -3/4 1/2 7"} {
		p.Joints = nums(joints)
		posed := p
		posed.Joints = nums("0 0 0 -3/4 2/5 -1/3")
		target := world(m, posed, 6, at("1/3 -1/5"))
		bends, e := pose.Bends(m, p, 6, at("1/3 -1/5"), target)
		expectError(t, "Bends", e, api.OK)
		same := func(b pose.Bend) bool {
			return surdText(b.A) == "[2/5 0 0]" && surdText(b.B) == "[-1/3 0 0]" && b.Within
		}
		if len(bends) != 2 || !slices.ContainsFunc(bends, same) {
			t.Errorf("Bends with the joints %s: %s", joints, bendsText(bends))
		}
		p.Joints[3] = num("-1/2")
		bends, e = pose.Bends(m, p, 6, at("1/3 -1/5"), target)
		expectError(t, "Bends", e, api.OK)
		if slices.ContainsFunc(bends, same) {
			t.Errorf("Bends with another hinge above: %s", bendsText(bends))
		}
	}
}

// P4.4: a bend is within the limits of both hinges, the limits included.
func TestBendsWithin(t *testing.T) {
	for _, c := range []struct {
		target string
		limits string // of A and of B
		want   string // whether the bends are within
	}{
		{"2 -2", "0 1 -1 1", "true true"},
		{"2 -2", "1 1 -1 1", "true false"},
		{"2 -2", "0 0 -1 1", "false true"},
		{"2 -2", "0 999/1000 -1 1", "false true"},
		{"2 -2", "1/1000 1 -1 1", "true false"},
		{"2 -2", "0 1 -999/1000 1", "false true"},
		{"2 -2", "0 1 -1 999/1000", "true false"},
		{"2 -2", "0 1 -1 -1", "true false"},
		{"2 -2", "2 3 2 3", "false false"},
		// A is 1/√3 and B is -√3, about -1.7320508, and the opposite ones.
		{"0 -2", "-1 1 -2 2", "true true"},
		{"0 -2", "-1 1 -17321/10000 17320/10000", "true false"},
		{"0 -2", "-1 1 -17320/10000 17321/10000", "false true"},
		{"0 -2", "-1 57735/100000 -2 2", "false true"},
		{"0 -2", "-1 57736/100000 -2 2", "true true"},
		{"0 -2", "-57735/100000 1 -2 2", "true false"},
		{"0 -2", "-57736/100000 57736/100000 -2 2", "true true"},
	} {
		m := walker()
		limits := nums(c.limits)
		m.Bodies[1].Low, m.Bodies[1].High = limits[0], limits[1]
		m.Bodies[2].Low, m.Bodies[2].High = limits[2], limits[3]
		target := at(c.target).Add(at("0 4"))
		bends, e := pose.Bends(m, standing("0 0"), 2, at("0 -2"), target)
		expectError(t, "Bends", e, api.OK)
		got, any := "", false
		for _, b := range bends {
			got += map[bool]string{true: " true", false: " false"}[b.Within]
			any = any || b.Within
		}
		expect(t, "bends to "+c.target+" within "+c.limits, got, " "+c.want)
		can, e := pose.Reachable(m, standing("0 0"), 2, at("0 -2"), target)
		expectError(t, "Reachable", e, api.OK)
		if can != any {
			t.Errorf("Reachable, %s within %s: %v", c.target, c.limits, can)
		}
	}
}

// postures counts the bends for a knee, a point and a target, all seen from
// the hip: the places where the point may be before the hip is turned are
// those where two circles meet; from one of them the knee is turned by half a
// turn, from one the hip. many: there are infinitely many bends.
func postures(knee, point, target exact.Point) (count int, many bool) {
	square := func(p exact.Point) exact.Q { return p.Dot(p) }
	u, p, q := square(knee), square(point), square(target)
	gap := q.Sub(u).Sub(p)
	reach := num("4").Mul(u).Mul(p).Cmp(gap.Mul(gap)) // 1: two places, 0: one
	half := knee.Sub(point)                           // with the knee turned by half a turn
	isHalf := square(half).Cmp(q) == 0
	back := target.Scale(num("-1")) // with the hip turned by half a turn
	isBack := square(back.Sub(knee)).Cmp(p) == 0
	switch {
	case reach < 0:
		return 0, false
	case q.Sign() == 0:
		return 0, !isHalf || p.Sign() == 0
	case p.Sign() == 0:
		return 0, !isBack
	case u.Sign() == 0:
		return 0, true
	}
	count = 1 + reach
	if isHalf {
		count--
	}
	if isBack && !(isHalf && square(half.Sub(back)).Sign() == 0) {
		count--
	}
	return count, false
}

// P4.4: all bends are found, and no more.
func TestBendsCount(t *testing.T) {
	s := source(42)
	grid := func() exact.Point { return exact.Point{X: s.small(2), Z: s.small(2)} }
	seen := map[string]int{}
	for range 6000 {
		knee, point, target := grid(), grid(), grid()
		m := bent("0 0")
		m.Bodies[2].At = knee
		bends, e := pose.Bends(m, standing("0 0"), 2, point, target.Add(at("0 4")))
		count, many := postures(knee, point, target)
		call := "knee, point, target " + pointsText([]exact.Point{knee, point, target})
		if many {
			seen["many"]++
			expectError(t, call, e, api.ErrMany)
			continue
		}
		expectError(t, call, e, api.OK)
		if len(bends) != count {
			t.Errorf("%s: %d bends, want %d", call, len(bends), count)
		}
		seen[string(rune('0'+count))]++
	}
	for _, kind := range []string{"0", "1", "2", "many"} {
		if seen[kind] < 100 {
			t.Error("only", seen[kind], "targets with the number of bends", kind)
		}
	}
}

// The errors of Bends, Reachable and Bent, in the order of the chapter.
func TestBendErrors(t *testing.T) {
	wrong := walker()
	wrong.Bodies[1].Parent = 1
	bad := pose.Bend{A: surd("0 1 -1")}
	for _, c := range []struct {
		m    machine.Machine
		p    pose.Pose
		body int
		want api.Errno
	}{
		{wrong, standing("0"), 3, api.ErrArg},
		{machine.Machine{}, standing("0 0"), 2, api.ErrName},
		{walker(), standing("0"), 3, api.ErrArg},
		{walker(), standing("0 0"), 3, api.ErrRange},
		{walker(), standing("0 0"), -1, api.ErrRange},
		{walker(), standing("0 0"), math.MinInt, api.ErrRange},
		{walker(), standing("0 0"), math.MaxInt, api.ErrRange},
		{walker(), standing("0 0"), 0, api.ErrArg},
		{walker(), standing("0 0"), 1, api.ErrArg},
	} {
		bends, e := pose.Bends(c.m, c.p, c.body, at("2 0"), at("0 4"))
		expectError(t, "Bends", e, c.want)
		expect(t, "Bends with an error", bendsText(bends), "")
		can, e := pose.Reachable(c.m, c.p, c.body, at("2 0"), at("0 4"))
		expectError(t, "Reachable", e, c.want)
		if can {
			t.Error("Reachable with an error")
		}
		for _, b := range []pose.Bend{{}, bad} {
			x, z, e := pose.Bent(c.m, c.p, c.body, at("2 0"), b)
			expectError(t, "Bent", e, c.want)
			expect(t, "Bent with an error", surdText(x)+surdText(z), "[0 0 0][0 0 0]")
		}
	}
}

// P4.5: the roots of a bend that no field has both.
func TestBentErrors(t *testing.T) {
	for _, c := range []struct {
		a, b string
		want api.Errno
	}{
		{"0 1 2", "0 1 2", api.OK},
		{"0 1 2", "0 1 3", api.ErrArg},
		{"0 1 2", "0 1 8", api.ErrArg},
		{"0 1 4", "0 1 9", api.ErrArg},
		{"1 0 2", "1 0 3", api.ErrArg},
		{"1 0 2", "0 1 3", api.ErrArg},
		{"0 1 0", "0 1 3", api.OK},
		{"0 1 3", "0 1 0", api.OK},
		{"0 1 0", "0 1 0", api.OK},
		{"0 1 1/2", "0 1 1/2", api.OK},
		{"0 1 1/2", "0 1 2", api.ErrArg},
		{"0 1 -1", "0", api.ErrArg},
		{"0", "0 1 -1", api.ErrArg},
		{"0 1 -1", "0 1 -1", api.ErrArg},
		{"1 0 -1", "1 0 0", api.ErrArg},
		{"1 0 0", "1 0 -1/9", api.ErrArg},
		{"0 1 -1", "0 1 3", api.ErrArg},
		{"0 1 3", "0 1 -3", api.ErrArg},
	} {
		x, z, e := pose.Bent(walker(), standing("0 0"), 2, at("0 -2"), pose.Bend{A: surd(c.a), B: surd(c.b)})
		expectError(t, "Bent with "+c.a+" and "+c.b, e, c.want)
		if c.want != api.OK {
			expect(t, "Bent with an error", surdText(x)+surdText(z), "[0 0 0][0 0 0]")
		}
	}
}

// expectBent compares the two coordinates that Bent gives, also in their form.
func expectBent(t *testing.T, a, b string, wantX, wantZ string) {
	t.Helper()
	for _, within := range []bool{false, true} {
		x, z, e := pose.Bent(walker(), standing("5 7"), 2, at("0 -2"), pose.Bend{A: surd(a), B: surd(b), Within: within})
		expectOK(t, "Bent with "+a+" and "+b, surdText(x)+surdText(z), e, surdText(surd(wantX))+surdText(surd(wantZ)))
	}
}

// P4.5: points of the walker, by hand.
func TestBent(t *testing.T) {
	expectBent(t, "0", "0", "0", "0")
	expectBent(t, "1", "-1", "2", "2")
	expectBent(t, "0", "1", "2", "2")
	expectBent(t, "9", "9", "-702/1681", "6966/1681")
	expectBent(t, "0 1/12 48", "0 -1/4 48", "0", "2")
	expectBent(t, "0 1/3 3", "0 -1 3", "0", "2")
	// With the half tangent √2 - 1, an eighth of a turn.
	expectBent(t, "0", "-1 1 2", "0 1 2", "2 -1 2")
	expectBent(t, "-1 1 2", "0", "0 2 2", "4 -2 2")
	expectBent(t, "-1 1 2", "-1 1 2", "2 1 2", "4 -1 2")
	expectBent(t, "-1 1 2", "1 -1 2", "0 1 2", "2 -1 2")
	// The same with other numbers below the root: D is that of the bend.
	expectBent(t, "0", "-1 1/2 8", "0 1/2 8", "2 -1/2 8")
	expectBent(t, "-1 1/3 18", "-1 1/3 18", "2 1/3 18", "4 -1/3 18")
	expectBent(t, "-1 2 1/2", "0", "0 2 2", "4 -2 2")
	expectBent(t, "-1 4 1/8", "0", "0 1 8", "4 -1 8")
	// One of the two has no root, or one that does not count.
	expectBent(t, "-1 1 2", "0 7 0", "0 2 2", "4 -2 2")
	expectBent(t, "0 -5 0", "-1 1 2", "0 1 2", "2 -1 2")
	expectBent(t, "-1 1 2", "0 0 2", "0 2 2", "4 -2 2")
	// Squares below the root.
	expectBent(t, "0 1/2 4", "0 -1/2 4", "2", "2")
	expectBent(t, "1 5 0", "-2 1/3 9", "2", "2")
	expectBent(t, "0 2 1/4", "1 -4 1/4", "2", "2")
	expectBent(t, "1/2 1/2 1", "-1/2 -1/2 1", "2", "2")
	expectBent(t, "0 3 1/9", "0 3 0", "4", "4")
}

// P4.5: any half tangents with any root, computed nearly.
func TestBentNearly(t *testing.T) {
	m, p := legged()
	s := source(45)
	for range 60 {
		d := s.positive()
		b := pose.Bend{A: exact.Surd{A: s.number(), B: s.number(), D: d}, B: exact.Surd{A: s.number(), B: s.number(), D: d}}
		switch s.below(4) {
		case 0:
			b.A.D = exact.Q{}
		case 1:
			b.B.D = exact.Q{}
		}
		point := s.point()
		x, z, e := pose.Bent(m, p, 6, point, b)
		expectError(t, "Bent", e, api.OK)
		expectNormal(t, "Bent", x)
		expectNormal(t, "Bent", z)
		nearX, nearZ := nearly(m, p, point, b)
		if math.Abs(value(x)-nearX) > 1e-6 || math.Abs(value(z)-nearZ) > 1e-6 {
			t.Errorf("Bent: got %v %v, want about %v %v", value(x), value(z), nearX, nearZ)
		}
		root := d.Num().Mul(d.Den())
		for _, c := range []exact.Surd{x, z} {
			if c.D.Sign() != 0 && c.D.Cmp(root) != 0 {
				t.Errorf("Bent: %s below the root, want %s", c.D.Text(), root.Text())
			}
		}
	}
}

// value returns the value of a number with a root nearly.
func value(s exact.Surd) float64 { return float(s.A) + float(s.B)*math.Sqrt(float(s.D)) }

// nearly returns the world point of a point of the toe of the machine with
// legs, with a bend.
func nearly(m machine.Machine, p pose.Pose, point exact.Point, b pose.Bend) (x, z float64) {
	z2 := complex(float(point.X), float(point.Z))
	for _, link := range []struct {
		at      exact.Point
		tangent float64
	}{{m.Bodies[6].At, value(b.B)}, {m.Bodies[5].At, value(b.A)}, {m.Bodies[4].At, float(p.Joints[3])}, {p.At, float(p.Turn)}} {
		sin, cos := math.Sincos(2 * math.Atan(link.tangent))
		z2 = z2*complex(cos, sin) + complex(float(link.at.X), float(link.at.Z))
	}
	return real(z2), imag(z2)
}
