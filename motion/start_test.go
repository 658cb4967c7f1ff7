package motion_test

import (
	"testing"

	"amble/api"
	"amble/exact"
	"amble/machine"
	"amble/motion"
	"amble/pose"
)

// P6.1: starts that can be seen.
func TestStart(t *testing.T) {
	w := walker()
	p := pose.Pose{At: at("0 4"), Joints: nums("0 0")}
	s := start(t, w, p, "0 0 0 1 0")
	expect(t, "a leg that swings", stateText(s), "[(0 4)(0 3)(0 1)][1 0 1 0 1 0][0 0 0 1 0 1 3 0 1][]")
	s = start(t, w, p, "5 6 0 0 0")
	expect(t, "a walker that flies", numsText(s.Speed), "[5 6 0 5 6 0 5 6 0]")
	s = start(t, w, p, "0 0 2 0 -1")
	expect(t, "a trunk that turns, and a shin", numsText(s.Speed), "[0 0 2 2 0 2 5 0 1]")
	p = pose.Pose{At: at("1 4"), Turn: num("1"), Joints: nums("0 -1")}
	s = start(t, w, p, "0 0 1 0 0")
	// The trunk and the leg are turned by a quarter turn, the shin hangs down.
	expect(t, "a bent walker", stateText(s), "[(1 4)(2 4)(3 3)][0 1 0 1 1 0][0 0 1 0 1 1 1 2 1][]")
	w = pair()
	s = start(t, w, pose.Pose{Joints: nums("1/2")}, "0 0 0 3")
	expect(t, "the heat of a start", stateText(s), "[(0 0)(0 0)][1 0 3/5 4/5][0 0 0 0 0 3][0]")
	w.Machine.Bodies[0].Centre = at("1 0")
	s = start(t, w, pose.Pose{At: at("5 6"), Turn: num("1"), Joints: nums("0")}, "0 0 2 0")
	expect(t, "a trunk with its centre elsewhere", pointsText(s.At)+numsText(s.Speed), "[(5 7)(5 6)][-2 0 2 0 0 2]")
}

// going is a body's origin in the world, with its velocity.
type going struct {
	place, velocity exact.Point
	rot             exact.Rot
	turning         exact.Q
}

// at returns a point of a body, with its velocity.
func (g going) at(p exact.Point) (place, velocity exact.Point) {
	arm := p.Turn(g.rot)
	quarter := exact.Point{X: arm.Z.Neg(), Z: arm.X}
	return g.place.Add(arm), g.velocity.Add(quarter.Scale(g.turning))
}

// launched is what Start should give, found from hinge to hinge.
func launched(m machine.Machine, p pose.Pose, speeds []exact.Q) motion.State {
	all := []going{{p.At, exact.Point{X: speeds[0], Z: speeds[1]}, exact.Turn(p.Turn), speeds[2]}}
	for i, b := range m.Bodies[1:] {
		above := all[b.Parent]
		place, velocity := above.at(b.At)
		all = append(all, going{place, velocity, above.rot.Then(exact.Turn(p.Joints[i])), above.turning.Add(speeds[3+i])})
	}
	s := motion.State{Heat: make([]exact.Q, len(m.Motors))}
	for i, b := range m.Bodies {
		place, velocity := all[i].at(b.Centre)
		s.At, s.Rot = append(s.At, place), append(s.Rot, all[i].rot)
		s.Speed = append(s.Speed, velocity.X, velocity.Z, all[i].turning)
	}
	return s
}

// P6.1 and P6.10: any starts; they have no drift, and their pose is the pose.
func TestStartAny(t *testing.T) {
	s := source(601)
	for range 200 {
		w := s.world(7)
		p, speeds := s.pose(w.Machine), s.numbers(len(w.Machine.Bodies)+2)
		got, e := motion.Start(w, p, speeds)
		expectOK(t, "Start", stateText(got), e, stateText(launched(w.Machine, p, speeds)))
		expectError(t, "Fits of a start", motion.Fits(w, got), api.OK)
		drift, e := motion.Drift(w, got)
		expectOK(t, "Drift of a start", pointsText(drift), e, pointsText(make([]exact.Point, len(p.Joints))))
		back, e := motion.Pose(w, got)
		expectOK(t, "Pose of a start", poseText(back), e, poseText(p))
	}
}

// P6.6: poses of states.
func TestPose(t *testing.T) {
	w := pair()
	w.Machine.Bodies[0].Centre, w.Machine.Bodies[1].Centre = at("1 0"), at("0 -1/2")
	s := motion.State{At: points("5 6, 100 100"), Rot: []exact.Rot{rot("0 1"), rot("-3/5 4/5")}, Speed: make([]exact.Q, 6), Heat: nums("3")}
	p, e := motion.Pose(w, s)
	expectOK(t, "Pose of bodies that do not meet", poseText(p), e, "(5 5)1[1/3]")
	s.Rot[1] = rot("0 1")
	p, e = motion.Pose(w, s)
	expectOK(t, "Pose of a straight hinge", poseText(p), e, "(5 5)1[0]")
	// The arm is turned by half a turn, but against the trunk by a quarter only.
	s.Rot[1] = rot("-1 0")
	p, e = motion.Pose(w, s)
	expectOK(t, "Pose of a body without a half tangent", poseText(p), e, "(5 5)1[1]")
	s.Rot[1] = rot("0 -1")
	p, e = motion.Pose(w, s)
	expectError(t, "Pose of a hinge without a half tangent", e, api.ErrNone)
	expect(t, "Pose with an error", poseText(p), poseText(pose.Pose{}))
	s.Rot = []exact.Rot{rot("-1 0"), rot("-1 0")}
	p, e = motion.Pose(w, s)
	expectError(t, "Pose of a trunk without a half tangent", e, api.ErrNone)
	expect(t, "Pose with an error", poseText(p), poseText(pose.Pose{}))
	w = ball()
	p, e = motion.Pose(w, above(t, w, "3 4", "0 0 0"))
	expectOK(t, "Pose of a ball", poseText(p), e, "(3 4)0[]")
	w = walker()
	late := start(t, w, pose.Pose{Joints: nums("1/2 1/3")}, "0 0 0 0 0")
	late.Rot[2] = late.Rot[1].Then(rot("-1 0"))
	p, e = motion.Pose(w, late)
	expectError(t, "Pose of a last hinge without a half tangent", e, api.ErrNone)
	expect(t, "Pose with an error", poseText(p), poseText(pose.Pose{}))
}

// P6.6: without drift, the bodies of the pose are where those of the state are.
func TestPoseOfStates(t *testing.T) {
	s := source(602)
	moved := 0
	for range 60 {
		m := s.moment(4, 0)
		next, r := stepped(t, "a moment", m.w, m.s, m.torques)
		p, e := motion.Pose(m.w, next)
		if e != api.OK {
			expectError(t, "Pose", e, api.ErrNone)
			continue
		}
		again, e := motion.Start(m.w, p, make([]exact.Q, len(m.w.Machine.Bodies)+2))
		expectError(t, "Start", e, api.OK)
		drift, e := motion.Drift(m.w, next)
		expectError(t, "Drift", e, api.OK)
		expect(t, "the rotations of the pose", rotsText(again.Rot), rotsText(next.Rot))
		expect(t, "the trunk of the pose", pointText(again.At[0]), pointText(next.At[0]))
		if pointsText(drift) == pointsText(make([]exact.Point, len(drift))) {
			moved += len(r.Touches)
			expect(t, "the bodies of the pose", pointsText(again.At), pointsText(next.At))
		}
	}
	if moved == 0 {
		t.Error("no state without drift")
	}
}
