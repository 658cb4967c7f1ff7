package pose_test

import (
	"math"
	"testing"

	"amble/api"
	"amble/exact"
	"amble/machine"
	"amble/pose"
)

// P4.1: which poses fit.
func TestCheck(t *testing.T) {
	m := walker()
	for joints, want := range map[string]api.Errno{"0 0": api.OK, "9 -9": api.OK, "": api.ErrArg, "0": api.ErrArg, "0 0 0": api.ErrArg} {
		expectError(t, "Check with the joints "+joints, pose.Check(m, standing(joints)), want)
	}
	m.Bodies = m.Bodies[:1]
	expectError(t, "Check of a trunk", pose.Check(m, standing("")), api.OK)
	expectError(t, "Check of a trunk with a joint", pose.Check(m, standing("0")), api.ErrArg)
}

// P4.1: the machine's error comes before that of the pose, whichever it is.
func TestCheckMachine(t *testing.T) {
	expectError(t, "Check of nothing", pose.Check(machine.Machine{}, pose.Pose{}), api.ErrName)
	spoils := map[api.Errno]func(*machine.Machine){
		api.ErrName:  func(m *machine.Machine) { m.Bodies[1].Name = "" },
		api.ErrTwice: func(m *machine.Machine) { m.Bodies[2].Name = "leg" },
		api.ErrLimit: func(m *machine.Machine) { m.Feet = make([]machine.Foot, api.MaxFeet+1) },
		api.ErrArg:   func(m *machine.Machine) { m.Bodies = nil },
	}
	for want, spoil := range spoils {
		m := walker()
		spoil(&m)
		expectError(t, "Check", pose.Check(m, standing("0 0")), want)
		expectError(t, "Check, also without joints", pose.Check(m, standing("")), want)
	}
}

// P4.1: the frames of the example, by hand.
func TestFrames(t *testing.T) {
	for _, c := range []struct{ joints, want string }{
		{"0 0", "(0 4)[1 0](0 4)[1 0](0 2)[1 0]"},
		{"1 0", "(0 4)[1 0](0 4)[0 1](2 4)[0 1]"},
		{"0 1/2", "(0 4)[1 0](0 4)[1 0](0 2)[3/5 4/5]"},
		{"1 1", "(0 4)[1 0](0 4)[0 1](2 4)[-1 0]"},
		{"-1 1/2", "(0 4)[1 0](0 4)[0 -1](-2 4)[4/5 -3/5]"},
	} {
		frames, e := pose.Frames(walker(), standing(c.joints))
		expectOK(t, "Frames with the joints "+c.joints, framesText(frames), e, c.want)
	}
	p := standing("1 0")
	p.Turn = num("1/2")
	frames, e := pose.Frames(walker(), p)
	expectOK(t, "Frames of a trunk that is turned", framesText(frames), e, "(0 4)[3/5 4/5](0 4)[-4/5 3/5](6/5 28/5)[-4/5 3/5]")
}

// P4.1: joints beyond the limits of hinges are taken as they are.
func TestFramesBeyond(t *testing.T) {
	frames, e := pose.Frames(walker(), standing("-2 3"))
	expectOK(t, "Frames", framesText(frames), e, "(0 4)[1 0](0 4)[-3/5 -4/5](-8/5 26/5)[24/25 7/25]")
}

// P4.1: frames, world points, shapes and soles of a machine that branches.
func TestWorld(t *testing.T) {
	m, p := legged()
	frames, e := pose.Frames(m, p)
	expectError(t, "Frames", e, api.OK)
	shapes, e := pose.Shapes(m, p)
	expectError(t, "Shapes", e, api.OK)
	if len(frames) != len(m.Bodies) || len(shapes) != len(m.Bodies) {
		t.Fatal(len(frames), "frames,", len(shapes), "shapes")
	}
	for i, b := range m.Bodies {
		expect(t, "World", pointText(worldOf(t, m, p, i, at("2 -3"))), pointText(world(m, p, i, at("2 -3"))))
		corner := world(m, p, i, exact.Point{})
		along := world(m, p, i, at("1 0")).Sub(corner)
		expect(t, "a frame", frameText(frames[i]), frameText(pose.Frame{At: corner, Rot: exact.Rot{C: along.X, S: along.Z}}))
		var want []exact.Point
		for _, corner := range b.Shape {
			want = append(want, world(m, p, i, corner))
		}
		expect(t, "a shape", pointsText(shapes[i]), pointsText(want))
	}
	soles, e := pose.Soles(m, p)
	expectError(t, "Soles", e, api.OK)
	var want [][]exact.Point
	for _, f := range m.Feet {
		var sole []exact.Point
		for _, point := range f.Points {
			sole = append(sole, world(m, p, f.Body, point))
		}
		want = append(want, sole)
	}
	expect(t, "Soles", listsText(soles), listsText(want))
}

// P4.1: a machine without feet, and without shapes.
func TestNoShapes(t *testing.T) {
	shapes, e := pose.Shapes(walker(), standing("0 0"))
	expectOK(t, "Shapes", listsText(shapes), e, "[][][]")
	soles, e := pose.Soles(walker(), standing("0 0"))
	expectOK(t, "Soles", listsText(soles), e, "")
}

// The errors of World come in the order of the chapter.
func TestWorldErrors(t *testing.T) {
	wrong := walker()
	wrong.Bodies[2].Name = "leg"
	for _, body := range []int{math.MinInt, -1, 3, math.MaxInt} {
		_, e := pose.World(walker(), standing("0 0"), body, exact.Point{})
		expectError(t, "World of no body", e, api.ErrRange)
		_, e = pose.World(walker(), standing("0 0 0"), body, exact.Point{})
		expectError(t, "World of no body in a pose that does not fit", e, api.ErrArg)
		_, e = pose.World(wrong, standing("0 0 0"), body, exact.Point{})
		expectError(t, "World of no body of a wrong machine", e, api.ErrTwice)
	}
}

// P4.1: as many bodies as there may be, each behind the one before it.
func TestLongChain(t *testing.T) {
	m := machine.Machine{Name: "chain"}
	p := pose.Pose{At: at("1 2"), Turn: num("1/9")}
	for i := range api.MaxBodies {
		b := machine.Body{Name: "b" + string(rune('a'+i)), Parent: i - 1, Mass: num("1"), Inertia: num("1")}
		if i > 0 {
			b.At = at("1/2 -1/3")
			joint, _ := exact.Of(int64(i-4), int64(i+1))
			p.Joints = append(p.Joints, joint)
		}
		m.Bodies = append(m.Bodies, b)
	}
	last := api.MaxBodies - 1
	expect(t, "World", pointText(worldOf(t, m, p, last, at("3 4"))), pointText(world(m, p, last, at("3 4"))))
	_, e := pose.World(m, p, api.MaxBodies, exact.Point{})
	expectError(t, "World", e, api.ErrRange)
}
