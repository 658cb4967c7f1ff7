package pose_test

import (
	"math"
	"testing"

	"amble/api"
	"amble/exact"
	"amble/machine"
	"amble/pose"
)

// P4.2: the centre of the example, and of heavier bodies.
func TestCentre(t *testing.T) {
	for joints, want := range map[string]string{"0 0": "(0 3)", "1 0": "(1 4)", "0 1": "(1/4 13/4)"} {
		centre, e := pose.Centre(walker(), standing(joints))
		expectOK(t, "Centre with the joints "+joints, pointText(centre), e, want)
	}
	m := walker()
	m.Bodies[0].Centre, m.Bodies[2].Mass = at("1 1"), num("7")
	centre, e := pose.Centre(m, standing("0 0"))
	expectOK(t, "Centre with a heavy shin", pointText(centre), e, "(1/5 2)")
	m.Bodies = m.Bodies[:1]
	centre, e = pose.Centre(m, pose.Pose{At: at("5 6"), Turn: num("1")})
	expectOK(t, "Centre of a trunk", pointText(centre), e, "(4 7)")
}

// centre is the centre of mass, with a factor for each body.
func centre(m machine.Machine, p pose.Pose) exact.Point {
	var sum exact.Point
	var weight exact.Q
	for i, b := range m.Bodies {
		sum = sum.Add(world(m, p, i, b.Centre).Scale(b.Mass))
		weight = weight.Add(b.Mass)
	}
	inverse, _ := num("1").Div(weight)
	return sum.Scale(inverse)
}

func TestCentreOfBranches(t *testing.T) {
	m, p := legged()
	got, e := pose.Centre(m, p)
	expectOK(t, "Centre", pointText(got), e, pointText(centre(m, p)))
}

// P4.3: the Jacobians of the example, and of one whose trunk is elsewhere.
func TestJacobian(t *testing.T) {
	for _, c := range []struct {
		body             int
		at, joints, want string
	}{
		{2, "0 -2", "0 0", "[1 0 4 4 2][0 1 0 0 0]"},
		{2, "0 -2", "1 0", "[1 0 0 0 0][0 1 4 4 2]"},
		{2, "0 -2", "0 1", "[1 0 2 2 0][0 1 2 2 2]"},
		{2, "0 0", "0 1", "[1 0 2 2 0][0 1 0 0 0]"},
		{1, "0 -2", "0 0", "[1 0 2 2 0][0 1 0 0 0]"},
		{1, "3 1", "0 0", "[1 0 -1 -1 0][0 1 3 3 0]"},
		{0, "3 1", "0 0", "[1 0 -1 0 0][0 1 3 0 0]"},
		{0, "0 0", "1 1", "[1 0 0 0 0][0 1 0 0 0]"},
	} {
		j, e := pose.Jacobian(walker(), standing(c.joints), c.body, at(c.at))
		expectOK(t, "Jacobian of "+c.at, matText(j), e, c.want)
	}
}

// P4.3: only the hinges of the chain count where a machine branches.
func TestJacobianOfBranches(t *testing.T) {
	m, p := legged()
	chains := [][]int{{0}, {0, 1}, {0, 1, 2}, {0, 3}, {0, 4}, {0, 4, 5}, {0, 4, 5, 6}}
	for body, chain := range chains {
		point := world(m, p, body, at("1/3 -2"))
		want := exact.Mat{make([]exact.Q, 9), make([]exact.Q, 9)}
		want[0][0], want[1][1] = num("1"), num("1")
		for _, i := range chain {
			hinge := world(m, p, i, exact.Point{})
			want[0][2+i], want[1][2+i] = hinge.Z.Sub(point.Z), point.X.Sub(hinge.X)
		}
		j, e := pose.Jacobian(m, p, body, at("1/3 -2"))
		expectOK(t, "Jacobian", matText(j), e, matText(want))
	}
}

// centreJacobian is the mean of the Jacobians of the centres.
func centreJacobian(t *testing.T, m machine.Machine, p pose.Pose) exact.Mat {
	t.Helper()
	weight, _ := machine.Weight(m)
	size := len(m.Bodies) + 2
	mean := exact.Mat{make([]exact.Q, size), make([]exact.Q, size)}
	for i, b := range m.Bodies {
		j, e := pose.Jacobian(m, p, i, b.Centre)
		expectError(t, "Jacobian", e, api.OK)
		share, _ := b.Mass.Div(weight)
		for row := range j {
			for column := range j[row] {
				mean[row][column] = mean[row][column].Add(j[row][column].Mul(share))
			}
		}
	}
	return mean
}

// P4.3: the Jacobian of the centre of mass.
func TestCentreJacobian(t *testing.T) {
	for joints, want := range map[string]string{"0 0": "[1 0 1 1 1/4][0 1 0 0 0]", "1 0": "[1 0 0 0 0][0 1 1 1 1/4]"} {
		j, e := pose.CentreJacobian(walker(), standing(joints))
		expectOK(t, "CentreJacobian with the joints "+joints, matText(j), e, want)
	}
	m, p := legged()
	j, e := pose.CentreJacobian(m, p)
	expectOK(t, "CentreJacobian", matText(j), e, matText(centreJacobian(t, m, p)))
	// The trunk turns the centre of mass as if it were a point of it.
	arm := centre(m, p).Sub(p.At)
	expect(t, "the trunk's column", pointText(exact.Point{X: j[0][2], Z: j[1][2]}), pointText(exact.Point{X: arm.Z.Neg(), Z: arm.X}))
}

// The errors come in the order of the chapter.
func TestMassErrors(t *testing.T) {
	wrong := walker()
	wrong.Bodies[1].Mass = num("0")
	for _, c := range []struct {
		m    machine.Machine
		p    pose.Pose
		want api.Errno
	}{
		{wrong, standing("0"), api.ErrArg},
		{machine.Machine{}, standing("0"), api.ErrName},
		{walker(), standing("0"), api.ErrArg},
	} {
		_, e := pose.Centre(c.m, c.p)
		expectError(t, "Centre", e, c.want)
		_, e = pose.CentreJacobian(c.m, c.p)
		expectError(t, "CentreJacobian", e, c.want)
		_, e = pose.Jacobian(c.m, c.p, 3, exact.Point{})
		expectError(t, "Jacobian of no body", e, c.want)
	}
	for _, body := range []int{math.MinInt, -1, 3, math.MaxInt} {
		_, e := pose.Jacobian(walker(), standing("0 0"), body, exact.Point{})
		expectError(t, "Jacobian of no body", e, api.ErrRange)
	}
}
