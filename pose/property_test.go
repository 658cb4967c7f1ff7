package pose_test

import (
	"slices"
	"testing"

	"amble/api"
	"amble/exact"
	"amble/machine"
	"amble/pose"
)

// The properties of the chapter, for machines and poses that look random.

// state is what a pose says about where all points of a machine are.
type state struct {
	points                   []exact.Point // of the frames, shapes, feet, and the centre of mass
	beyond, tight, collision string
}

func stateOf(t *testing.T, m machine.Machine, p pose.Pose) state {
	t.Helper()
	var s state
	frames, e := pose.Frames(m, p)
	expectError(t, "Frames", e, api.OK)
	shapes, e := pose.Shapes(m, p)
	expectError(t, "Shapes", e, api.OK)
	soles, e := pose.Soles(m, p)
	expectError(t, "Soles", e, api.OK)
	centre, e := pose.Centre(m, p)
	expectError(t, "Centre", e, api.OK)
	for i, f := range frames {
		s.points = append(s.points, f.At, worldOf(t, m, p, i, at("3 5")))
	}
	s.points = append(s.points, centre)
	s.points = append(s.points, slices.Concat(shapes...)...)
	s.points = append(s.points, slices.Concat(soles...)...)
	beyond, e := pose.Beyond(m, p)
	expectError(t, "Beyond", e, api.OK)
	tight, e := pose.Tight(m, p)
	expectError(t, "Tight", e, api.OK)
	pairs, e := pose.Collisions(m, p)
	expectError(t, "Collisions", e, api.OK)
	s.beyond, s.tight, s.collision = intsText(beyond), intsText(tight), pairsText(pairs)
	return s
}

// mapped returns the points that come from others.
func mapped(l []exact.Point, move func(exact.Point) exact.Point) []exact.Point {
	var all []exact.Point
	for _, p := range l {
		all = append(all, move(p))
	}
	return all
}

// P4.10: a trunk that is moved and turned moves and turns all.
func TestMoved(t *testing.T) {
	s := source(410)
	seen := map[bool]int{}
	for range 60 {
		m := s.machine(6)
		p := s.pose(m)
		before := stateOf(t, m, p)
		by, turn := s.point(), s.number()
		under := num("1").Sub(turn.Mul(p.Turn))
		if under.Sign() == 0 {
			continue
		}
		moved := p
		moved.At = p.At.Turn(exact.Turn(turn)).Add(by)
		moved.Turn, _ = turn.Add(p.Turn).Div(under)
		after := stateOf(t, m, moved)
		move := func(p exact.Point) exact.Point { return p.Turn(exact.Turn(turn)).Add(by) }
		expect(t, "the points of what is moved", pointsText(after.points), pointsText(mapped(before.points, move)))
		expect(t, "Beyond of what is moved", after.beyond, before.beyond)
		expect(t, "Tight of what is moved", after.tight, before.tight)
		expect(t, "Collisions of what is moved", after.collision, before.collision)
		a, b := s.below(len(before.points)), s.below(len(before.points))
		first, second := before.points[a].Sub(before.points[b]), after.points[a].Sub(after.points[b])
		expect(t, "a distance", second.Dot(second).Text(), first.Dot(first).Text())
		seen[before.tight != ""]++
		seen[before.beyond == ""]++
	}
	if seen[true] < 20 || seen[false] < 20 {
		t.Error("tendons and joints:", seen)
	}
}

// hangs reports whether a body is, or hangs on, another one.
func hangs(m machine.Machine, body, hinge int) bool {
	for body > hinge {
		body = m.Bodies[body].Parent
	}
	return body == hinge
}

// P4.11: a hinge that is turned further turns what hangs on it, and its column
// of a Jacobian says so.
func TestHinges(t *testing.T) {
	s := source(411)
	for range 200 {
		m := s.machine(7)
		if len(m.Bodies) < 2 {
			continue
		}
		p := s.pose(m)
		hinge := 1 + s.below(len(m.Bodies)-1)
		by, old := s.number(), p.Joints[hinge-1]
		under := num("1").Sub(old.Mul(by))
		if under.Sign() == 0 {
			continue
		}
		turned, _ := old.Add(by).Div(under)
		after := p
		after.Joints = with(p.Joints, hinge-1, turned)
		frames, e := pose.Frames(m, p)
		expectError(t, "Frames", e, api.OK)
		place := frames[hinge].At
		body, point := s.below(len(m.Bodies)), s.point()
		first := worldOf(t, m, p, body, point)
		column := exact.Point{}
		want := first
		if hangs(m, body, hinge) {
			arm := first.Sub(place)
			want = place.Add(arm.Turn(exact.Turn(by)))
			column = arm.Turn(exact.Rot{S: num("1")})
		}
		expect(t, "a point of a turned hinge", pointText(worldOf(t, m, after, body, point)), pointText(want))
		j, e := pose.Jacobian(m, p, body, point)
		expectError(t, "Jacobian", e, api.OK)
		expect(t, "the hinge's column", pointText(exact.Point{X: j[0][2+hinge], Z: j[1][2+hinge]}), pointText(column))
	}
}

// P4.3 and P4.11: the Jacobian of the centre of mass is the mean of those of
// the centres.
func TestCentreColumns(t *testing.T) {
	s := source(413)
	for range 40 {
		m := s.machine(6)
		p := s.pose(m)
		j, e := pose.CentreJacobian(m, p)
		expectOK(t, "CentreJacobian", matText(j), e, matText(centreJacobian(t, m, p)))
		c, e := pose.Centre(m, p)
		expectOK(t, "Centre", pointText(c), e, pointText(centre(m, p)))
	}
}

// lengthened returns a machine with at least three bodies, and one of them
// whose parent is not the trunk.
func (s *source) lengthened() (machine.Machine, int) {
	m := s.machine(6)
	for len(m.Bodies) < 3 {
		m = s.machine(6)
	}
	body := len(m.Bodies) - 1
	if m.Bodies[body].Parent == 0 {
		m.Bodies[body].Parent = 1 + s.below(body-1)
	}
	return m, body
}

// sameAs reports whether a number with a root is a number.
func sameAs(s exact.Surd, q exact.Q) bool {
	order, e := s.Cmp(exact.Surd{A: q})
	return order == 0 && e == api.OK
}

// P4.12: with each bend the point is at the target.
func TestBendsReach(t *testing.T) {
	s := source(412)
	withRoot := 0
	for range 400 {
		m, body := s.lengthened()
		p, point := s.pose(m), s.point()
		target := worldOf(t, m, p, m.Bodies[m.Bodies[body].Parent].Parent, s.point())
		bends, e := pose.Bends(m, p, body, point, target)
		if e != api.OK {
			expectError(t, "Bends", e, api.ErrMany)
			continue
		}
		any := false
		for _, b := range bends {
			x, z, e := pose.Bent(m, p, body, point, b)
			expectOK(t, "Bent", surdText(x)+surdText(z), e, surdText(exact.Surd{A: target.X})+surdText(exact.Surd{A: target.Z}))
			if b.B.D.Sign() != 0 {
				withRoot++
			}
			any = any || b.Within
		}
		can, e := pose.Reachable(m, p, body, point, target)
		expectError(t, "Reachable", e, api.OK)
		if can != any {
			t.Error("Reachable:", can, bendsText(bends))
		}
	}
	if withRoot < 50 {
		t.Error("only", withRoot, "bends with roots")
	}
}

// P4.12: half tangents that bring the point to the target are a bend.
func TestBendsFound(t *testing.T) {
	s := source(414)
	found := 0
	for range 300 {
		m, body := s.lengthened()
		p, point := s.pose(m), s.point()
		parent := m.Bodies[body].Parent
		hip, knee := p.Joints[parent-1], p.Joints[body-1]
		target := worldOf(t, m, p, body, point)
		p.Joints = with(with(p.Joints, parent-1, s.number()), body-1, s.number())
		bends, e := pose.Bends(m, p, body, point, target)
		if e != api.OK {
			expectError(t, "Bends", e, api.ErrMany)
			continue
		}
		i := slices.IndexFunc(bends, func(b pose.Bend) bool { return sameAs(b.A, hip) && sameAs(b.B, knee) })
		if i < 0 {
			t.Fatalf("the joints %s and %s are no bend of %s", hip.Text(), knee.Text(), bendsText(bends))
		}
		found++
		thigh, shin := m.Bodies[parent], m.Bodies[body]
		within := hip.Cmp(thigh.Low) >= 0 && hip.Cmp(thigh.High) <= 0 && knee.Cmp(shin.Low) >= 0 && knee.Cmp(shin.High) <= 0
		if bends[i].Within != within {
			t.Error("Within of a bend:", bends[i].Within)
		}
		x, z, e := pose.Bent(m, p, body, point, bends[i])
		expectOK(t, "Bent", surdText(x)+surdText(z), e, surdText(exact.Surd{A: target.X})+surdText(exact.Surd{A: target.Z}))
	}
	if found < 250 {
		t.Error("only", found, "bends")
	}
}

// P4.14: in the mirror all points are mirrored.
func TestMirrored(t *testing.T) {
	s := source(415)
	for range 60 {
		m := s.machine(6)
		p := s.pose(m)
		mirror, e := machine.Mirror(m)
		expectError(t, "Mirror", e, api.OK)
		q := pose.Pose{At: exact.Point{X: p.At.X.Neg(), Z: p.At.Z}, Turn: p.Turn.Neg()}
		for _, joint := range p.Joints {
			q.Joints = append(q.Joints, joint.Neg())
		}
		flip := func(p exact.Point) exact.Point { return exact.Point{X: p.X.Neg(), Z: p.Z} }
		for i := range m.Bodies {
			point := s.point()
			expect(t, "a mirrored point", pointText(worldOf(t, mirror, q, i, flip(point))), pointText(flip(worldOf(t, m, p, i, point))))
		}
		first, second := stateOf(t, m, p), stateOf(t, mirror, q)
		expect(t, "Beyond in the mirror", second.beyond, first.beyond)
		expect(t, "Tight in the mirror", second.tight, first.tight)
		expect(t, "Collisions in the mirror", second.collision, first.collision)
		shapes, e := pose.Shapes(m, p)
		expectError(t, "Shapes", e, api.OK)
		flipped, e := pose.Shapes(mirror, q)
		expectError(t, "Shapes", e, api.OK)
		for i, shape := range shapes {
			shape = mapped(shape, flip)
			if len(shape) > 0 {
				slices.Reverse(shape[1:])
			}
			expect(t, "a mirrored shape", pointsText(flipped[i]), pointsText(shape))
		}
		c, e := pose.Centre(m, p)
		expectError(t, "Centre", e, api.OK)
		d, e := pose.Centre(mirror, q)
		expectOK(t, "the centre of mass in the mirror", pointText(d), e, pointText(flip(c)))
		g := s.ground()
		gaps, e := pose.Gaps(m, p, g)
		expectError(t, "Gaps", e, api.OK)
		mirroredGaps, e := pose.Gaps(mirror, q, mirrored(g))
		expectOK(t, "Gaps in the mirror", matText(mirroredGaps), e, matText(gaps))
		sunk, e := pose.Sunk(m, p, g)
		expectError(t, "Sunk", e, api.OK)
		mirroredSunk, e := pose.Sunk(mirror, q, mirrored(g))
		expectOK(t, "Sunk in the mirror", intsText(mirroredSunk), e, intsText(sunk))
	}
}

// P4.15: in an enlarged machine all points are further away by the factor.
func TestScaled(t *testing.T) {
	s := source(416)
	for range 60 {
		m := s.machine(6)
		p := s.pose(m)
		k := s.positive()
		scaled, e := machine.Scale(m, k)
		expectError(t, "Scale", e, api.OK)
		q := p
		q.At = p.At.Scale(k)
		enlarge := func(p exact.Point) exact.Point { return p.Scale(k) }
		for i := range m.Bodies {
			point := s.point()
			expect(t, "a point of an enlarged machine", pointText(worldOf(t, scaled, q, i, enlarge(point))), pointText(enlarge(worldOf(t, m, p, i, point))))
		}
		first, second := stateOf(t, m, p), stateOf(t, scaled, q)
		expect(t, "Beyond of an enlarged machine", second.beyond, first.beyond)
		expect(t, "Tight of an enlarged machine", second.tight, first.tight)
		expect(t, "Collisions of an enlarged machine", second.collision, first.collision)
	}
}

// P4.4 and P4.15: an enlarged leg has the same bends.
func TestBendsScaled(t *testing.T) {
	s := source(417)
	for range 100 {
		m, body := s.lengthened()
		p, point, k := s.pose(m), s.point(), s.positive()
		target := worldOf(t, m, p, body-1, s.point())
		bends, e := pose.Bends(m, p, body, point, target)
		scaled, _ := machine.Scale(m, k)
		p.At = p.At.Scale(k)
		same, f := pose.Bends(scaled, p, body, point.Scale(k), target.Scale(k))
		expectError(t, "Bends of an enlarged machine", f, e)
		expectSame(t, same, bends)
	}
}

// expectSame compares bends by their values.
func expectSame(t *testing.T, got, want []pose.Bend) {
	t.Helper()
	same := slices.EqualFunc(got, want, func(a, b pose.Bend) bool {
		hip, e := a.A.Cmp(b.A)
		knee, f := a.B.Cmp(b.B)
		return hip == 0 && knee == 0 && e == api.OK && f == api.OK && a.Within == b.Within
	})
	if !same {
		t.Errorf("got the bends %s, want %s", bendsText(got), bendsText(want))
	}
}
