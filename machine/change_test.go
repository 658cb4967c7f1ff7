package machine_test

import (
	"testing"

	"amble/api"
	"amble/exact"
	"amble/machine"
)

// expectMachine compares machines field by field.
func expectMachine(t *testing.T, call string, m machine.Machine, e api.Errno, want machine.Machine) {
	t.Helper()
	expectError(t, call, e, api.OK)
	expect(t, call, machineText(m), machineText(want))
}

func expectNoMachine(t *testing.T, call string, m machine.Machine, e, want api.Errno) {
	t.Helper()
	expectError(t, call, e, want)
	expect(t, call, machineText(m), machineText(machine.Machine{}))
}

// isX reports whether the number at a place is an X.
func isX(p machine.Place) bool {
	switch p.Kind {
	case machine.OfBody:
		return p.Field == 0 || p.Field == 4 || p.Field == 8
	case machine.OfSpring, machine.OfTendon:
		return p.Field == 0 || p.Field == 2
	case machine.OfFoot:
		return p.Field == 0
	}
	return false
}

// mirrored returns what Mirror should return for a machine.
func mirrored(m machine.Machine) machine.Machine {
	m = clone(m)
	for _, s := range spots(&m) {
		if isX(s.place) {
			*s.number = exact.Q{}.Sub(*s.number)
		}
	}
	for i, b := range m.Bodies {
		m.Bodies[i].Low, m.Bodies[i].High = exact.Q{}.Sub(b.High), exact.Q{}.Sub(b.Low)
		n := len(b.Shape)
		turned := make([]exact.Point, n)
		for k := range b.Shape {
			turned[(n-k)%n] = b.Shape[k]
		}
		m.Bodies[i].Shape = turned
	}
	return m
}

// P3.8: Mirror.
func TestMirror(t *testing.T) {
	m, e := machine.Mirror(rich())
	expectMachine(t, "Mirror", m, e, mirrored(rich()))
	expectError(t, "Check of the mirror", machine.Check(m), api.OK)
	want := rich()
	want.Bodies[0].Centre = at("-1/10", "-1/5")
	want.Bodies[0].Shape = points("3/8 -3/16, 2/9 4/9, -3/7 2/7, -5/16 -1/7")
	thigh := &want.Bodies[1]
	thigh.At, thigh.Centre, thigh.Low, thigh.High = at("-1/4", "-1/8"), at("-1/100", "-1/6"), num("-3/5"), num("1")
	thigh.Shape = points("-1/12 0, 1/15 -1/16, -1/13 1/14")
	shin := &want.Bodies[2]
	shin.At, shin.Centre, shin.Low, shin.High = at("-1/50", "-2/5"), at("-1/51", "-1/22"), num("-3/2"), num("1/23")
	arm := &want.Bodies[3]
	arm.At, arm.Centre, arm.Low, arm.High = at("1/3", "1/9"), at("1/32", "1/33"), num("3"), num("7/2")
	want.Springs[0].From, want.Springs[0].To = at("-2/41", "3/41"), at("-4/41", "-5/41")
	want.Springs[1].From, want.Springs[1].To = at("2/43", "3/43"), at("4/43", "5/43")
	want.Tendons[0].From, want.Tendons[0].To = at("-2/51", "-3/51"), at("-4/51", "5/51")
	want.Tendons[1].From, want.Tendons[1].To = at("-2/53", "3/53"), at("4/53", "5/53")
	want.Feet[0].Points = points("1/81 -2/81, -4/81 -5/82")
	want.Feet[1].Points = points("-1/91 -2/91")
	expectMachine(t, "Mirror", m, e, want)
	small := machine.Machine{Name: "m", Bodies: rich().Bodies[2:3]}
	small.Bodies[0] = machine.Body{Name: "a", Parent: -1, Mass: num("1"), Inertia: num("2")}
	m, e = machine.Mirror(small)
	expectMachine(t, "Mirror of a trunk", m, e, small)
	s := source(38)
	for range 100 {
		other := s.machine()
		m, e := machine.Mirror(other)
		expectMachine(t, "Mirror of any machine", m, e, mirrored(other))
	}
}

// powers returns for each field of a kind of places by which power of the
// factor Scale multiplies.
func powers(p machine.Place) int {
	return map[uint8][]int{
		machine.OfBody:   {1, 1, 3, 5, 1, 1, 0, 0, 1, 1},
		machine.OfSpring: {1, 1, 1, 1, 0},
		machine.OfTendon: {1, 1, 1, 1, 1},
		machine.OfMotor:  {1, 0, 0, 0},
		machine.OfFoot:   {1, 1, 0},
	}[p.Kind][p.Field]
}

// scaled returns what Scale should return for a machine.
func scaled(m machine.Machine, k exact.Q) machine.Machine {
	m = clone(m)
	for _, s := range spots(&m) {
		for range powers(s.place) {
			*s.number = s.number.Mul(k)
		}
	}
	return m
}

// P3.8: Scale.
func TestScale(t *testing.T) {
	for _, k := range []string{"1", "2", "1/3", "7/5", "1000000000000000000000", "1/1000000000000000000000"} {
		m, e := machine.Scale(rich(), num(k))
		expectMachine(t, "Scale by "+k, m, e, scaled(rich(), num(k)))
		expectError(t, "Check of the scaled machine", machine.Check(m), api.OK)
	}
	m, e := machine.Scale(rich(), num("2"))
	expectError(t, "Scale by 2", e, api.OK)
	expect(t, "the mass", m.Bodies[0].Mass.Text(), "80")
	expect(t, "the inertia", m.Bodies[0].Inertia.Text(), "16")
	expect(t, "the stiffness", m.Springs[0].Stiff.Text(), "410")
	expect(t, "the torque", m.Motors[0].Torque.Text(), "122")
	expect(t, "the heat", m.Motors[0].Most.Text(), "64")
	expect(t, "the length", m.Tendons[1].Length.Text(), "12/53")
	s := source(39)
	for range 100 {
		other, k := s.machine(), s.positive()
		m, e := machine.Scale(other, k)
		expectMachine(t, "Scale of any machine", m, e, scaled(other, k))
	}
}

// P3.8: errors; those of the machine come first.
func TestChangeErrors(t *testing.T) {
	for _, k := range []string{"0", "-1", "-1/1000000000000"} {
		m, e := machine.Scale(rich(), num(k))
		expectNoMachine(t, "Scale by "+k, m, e, api.ErrRange)
	}
	twice := rich()
	twice.Bodies[3].Name = "trunk"
	foot := rich()
	foot.Feet[1].Points = nil
	for _, c := range []struct {
		m    machine.Machine
		want api.Errno
	}{{machine.Machine{}, api.ErrName}, {machine.Machine{Name: "m"}, api.ErrArg}, {withBodies(13), api.ErrLimit}, {twice, api.ErrTwice}, {foot, api.ErrArg}} {
		m, e := machine.Mirror(c.m)
		expectNoMachine(t, "Mirror", m, e, c.want)
		for _, k := range []string{"0", "1"} {
			m, e := machine.Scale(c.m, num(k))
			expectNoMachine(t, "Scale", m, e, c.want)
		}
	}
}
