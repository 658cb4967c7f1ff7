package motion_test

import (
	"testing"

	"amble/api"
	"amble/exact"
	"amble/machine"
	"amble/motion"
	"amble/pose"
)

func expectTouches(t *testing.T, name string, w motion.World, s motion.State, want string) {
	t.Helper()
	l, e := motion.Touches(w, s)
	expectOK(t, "Touches of "+name, touchesText(l), e, want)
}

// P6.2: feet above, on, and below the ground.
func TestSoles(t *testing.T) {
	w := ball()
	expectTouches(t, "a ball in the air", w, above(t, w, "0 1001/1000", "0 0 0"), "")
	expectTouches(t, "a ball on the ground", w, above(t, w, "2 1", "0 0 0"), "1 0 0(2 0);")
	expectTouches(t, "a ball below the ground", w, above(t, w, "2 -5", "0 9 0"), "1 0 0(2 -6);")
	expectTouches(t, "a ball beside the ground", w, above(t, w, "-100 1", "0 0 0"), "1 0 0(-100 0);")
	w.Ground = pose.Ground(points("-2 2, 0 0, 2 1, 4 9"))
	expectTouches(t, "a ball in a valley", w, above(t, w, "0 1", "0 0 0"), "1 0 0(0 0);")
	expectTouches(t, "a ball on a slope", w, above(t, w, "1 3/2", "0 0 0"), "1 0 0(1 1/2);")
	expectTouches(t, "a ball above a slope", w, above(t, w, "1 8/5", "0 0 0"), "")
	expectTouches(t, "a ball behind the slope", w, above(t, w, "7 10", "0 0 0"), "1 0 0(7 9);")
	expectTouches(t, "a ball before the slope", w, above(t, w, "-7 301/100", "0 0 0"), "")
	w = changed(ball(), func(w *motion.World) {
		w.Machine.Bodies[0].Centre = at("0 1")
		w.Machine.Feet = []machine.Foot{
			{Body: 0, Points: points("-1 0, 1 0")}, {Body: 0, Points: points("0 5")}, {Body: 0, Points: points("2 -1, 0 0")},
		}
	})
	s := start(t, w, pose.Pose{}, "0 0 0")
	expectTouches(t, "a body on its feet", w, s, "1 0 0(-1 0);1 0 1(1 0);1 2 0(2 -1);1 2 1(0 0);")
	s = start(t, w, pose.Pose{Turn: num("1")}, "0 0 0")
	expectTouches(t, "a body on its side", w, s, "1 0 0(0 -1);1 1 0(-5 0);1 2 1(0 0);")
	s = start(t, w, pose.Pose{Turn: num("-1")}, "0 0 0")
	expectTouches(t, "a body on the other side", w, s, "1 0 1(0 -1);1 1 0(5 0);1 2 0(-1 -2);1 2 1(0 0);")
}

// P6.2: hinges at their limits, beyond, within, and without a half tangent.
func TestStops(t *testing.T) {
	w := pair()
	for arm, want := range map[string]string{
		"0": "", "-999/1000": "", "999/1000": "",
		"-1": "2 1 0(0 0);", "-3": "2 1 0(0 0);", "1": "2 1 1(0 0);", "3": "2 1 1(0 0);",
	} {
		expectTouches(t, "an arm at "+arm, w, still("0", arm, "5 -5"), want)
	}
	expectTouches(t, "a turned pair", w, still("1", "0", "0 0"), "2 1 0(0 0);")
	expectTouches(t, "a turned pair", w, still("-1/2", "1/3", "0 0"), "2 1 1(0 0);")
	expectTouches(t, "a turned pair", w, still("-1/2", "1/4", "0 0"), "")
	s := still("0", "0", "0 0")
	s.Rot[1] = rot("-1 0")
	expectTouches(t, "an arm that is turned over", w, s, "")
	s.Rot[0] = rot("0 1")
	expectTouches(t, "an arm that is turned over, at its limit", w, s, "2 1 1(0 0);")
	s.Rot[0] = rot("-1 0")
	expectTouches(t, "a pair that is turned over", w, s, "")
	w.Machine.Bodies[1].Low, w.Machine.Bodies[1].High = num("1/2"), num("1/2")
	expectTouches(t, "an arm that cannot move", w, still("0", "1/2", "0 0"), "2 1 0(0 0);2 1 1(0 0);")
	expectTouches(t, "an arm that cannot move, too low", w, still("0", "1/3", "0 0"), "2 1 0(0 0);")
	expectTouches(t, "an arm that cannot move, too high", w, still("0", "2", "0 0"), "2 1 1(0 0);")
}

// roped returns the pair with a tendon between points 5 apart.
func roped(length string) motion.World {
	return changed(pair(), func(w *motion.World) {
		w.Machine.Tendons = []machine.Tendon{{A: 0, B: 1, From: at("3 0"), To: at("0 4"), Length: num(length)}}
	})
}

// P6.2: tendons that are loose, at their length, and beyond it.
func TestCords(t *testing.T) {
	s := still("0", "0", "0 0")
	for length, want := range map[string]string{"5001/1000": "", "5": "3 0 0(0 0);", "4999/1000": "3 0 0(0 0);", "1/9": "3 0 0(0 0);"} {
		expectTouches(t, "a tendon of "+length, roped(length), s, want)
	}
	expectTouches(t, "an arm that comes nearer", roped("5"), still("0", "-1/10", "0 0"), "")
	expectTouches(t, "an arm that goes away", roped("5"), still("0", "1/10", "0 0"), "3 0 0(0 0);")
	expectTouches(t, "a trunk that comes nearer", roped("5"), still("1/10", "0", "0 0"), "")
	s.At[1] = at("0 1/1000")
	expectTouches(t, "an arm that has come away", roped("5"), s, "3 0 0(0 0);")
	w := roped("5")
	w.Machine.Tendons = append(w.Machine.Tendons, machine.Tendon{A: 1, B: 0, From: at("1 1"), To: at("0 0"), Length: num("2")},
		machine.Tendon{A: 1, B: 0, From: at("1 1"), To: at("0 0"), Length: num("1")})
	expectTouches(t, "three tendons", w, still("0", "0", "0 0"), "3 0 0(0 0);3 2 0(0 0);")
}

// P6.2: feet come first, then stops, then cords.
func TestOrderOfTouches(t *testing.T) {
	w := changed(walker(), func(w *motion.World) {
		w.Machine.Bodies[1].Low, w.Machine.Bodies[2].High = exact.Q{}, exact.Q{}
		w.Machine.Feet = []machine.Foot{{Body: 2, Points: points("0 -2, 1 -3")}, {Body: 0, Points: points("0 -9")}}
		w.Machine.Tendons = []machine.Tendon{{A: 2, B: 0, Length: num("2")}, {A: 0, B: 1, To: at("7 0"), Length: num("7")}}
	})
	s := start(t, w, pose.Pose{At: at("0 4"), Joints: nums("0 0")}, "0 0 0 0 0")
	expectTouches(t, "a walker", w, s, "1 0 0(0 0);1 0 1(1 -1);1 1 0(0 -5);2 1 0(0 0);2 2 1(0 0);3 0 0(0 0);3 1 0(0 0);")
	if motion.Sole != 1 || motion.Stop != 2 || motion.Cord != 3 {
		t.Error("the numbers of the kinds of touches")
	}
}

// P6.2: the touches of any states.
func TestTouchesAny(t *testing.T) {
	s := source(603)
	seen := map[uint8]int{}
	for range 300 {
		w := s.world(5)
		m := moment{w: w, s: s.state(w)}
		want, _ := m.touches()
		expectTouches(t, "any state", w, m.s, touchesText(want))
		for _, touch := range want {
			seen[touch.Kind]++
		}
	}
	if seen[1] < 100 || seen[2] < 100 || seen[3] < 50 {
		t.Error("touches:", seen)
	}
}

func expectImpact(t *testing.T, name string, w motion.World, s motion.State, torques, problem, free, lift string) {
	t.Helper()
	system, touches, e := motion.Impact(w, s, nums(torques))
	expectOK(t, "Impact of "+name, systemText(system), e, problem+"|"+free+"|"+lift)
	same, f := motion.Touches(w, s)
	expectOK(t, "the touches of an impact", touchesText(touches), f, touchesText(same))
}

// P6.2: impacts that can be seen.
func TestImpact(t *testing.T) {
	w := ball()
	w.Machine.Feet[0].Friction = num("1/3")
	w.E = num("1/2")
	s := above(t, w, "0 1", "1 -3 0")
	// The rows: (0 20 0), and the tangent (20 0 20), as the foot is below.
	expectImpact(t, "a ball", w, s, "", "[200 0][0 600][-80 20][1/3]1/2", "[1 -4 0]", "[0 10][10 0][0 20]")
	w.Ground = pose.Ground(points("-1 -2, 1 2"))
	s = above(t, w, "0 1", "1 -3 0")
	// The ground leads up with (2, 4); the rows: (-4 2 -4), (2 4 2).
	expectImpact(t, "a ball on a slope", w, s, "", "[26 -8][-8 14][-12 -14][1/3]1/2", "[1 -4 0]", "[-2 1][1 2][-4 2]")
	w = pair()
	expectImpact(t, "a pair", w, still("0", "0", "0 0"), "4", "[][]0", "[0 0 -1 0 0 1/2]", "[][][][][][]")
	expectImpact(t, "an arm at its lower stop", w, still("0", "-1", "0 -3"), "4", "[3/4 0][0 0][-3/2 0][0]0", "[0 0 -1 0 0 -5/2]", "[0 0][0 0][-1/2 0][0 0][0 0][1/4 0]")
	expectImpact(t, "an arm at its upper stop", w, still("0", "1", "0 3"), "-4", "[3/4 0][0 0][-3/2 0][0]0", "[0 0 1 0 0 5/2]", "[0 0][0 0][1/2 0][0 0][0 0][-1/4 0]")
	// The tendon's row: (-3 4 12, 3 -4 -12); the hinge takes away the pull.
	expectImpact(t, "a tendon", roped("5"), still("0", "0", "-1 1"), "0", "[108 0][0 0][-24 0][0]0", "[0 0 -1 0 0 1]", "[0 0][0 0][6 0][0 0][0 0][-3 0]")
}

// P6.2: the impacts of any states.
func TestImpactAny(t *testing.T) {
	s := source(604)
	touched := 0
	for i := range 200 {
		m := s.moment(5, i%4)
		want, touches := m.impact()
		system, got, e := motion.Impact(m.w, m.s, m.torques)
		expectOK(t, "Impact", systemText(system)+touchesText(got), e, systemText(want)+touchesText(touches))
		touched += len(touches)
	}
	if touched < 300 {
		t.Error("only", touched, "touches")
	}
}

// P6.2: springs and gravity push.
func TestForces(t *testing.T) {
	w := pair()
	w.Machine.Springs = []machine.Spring{{A: 0, B: 1, From: at("1 0"), To: at("0 1"), Stiff: num("12")}}
	// The trunk is drawn with 12 (-1, 1) at (1, 0), the arm with the opposite at (0, 1):
	// the hinge takes away the forces, the torques 12 and -12 stay.
	expectImpact(t, "a spring", w, still("0", "0", "0 0"), "0", "[][]0", "[0 0 3 0 0 -3/2]", "[][][][][][]")
	expectImpact(t, "a spring and a motor", w, still("0", "0", "1 1"), "8", "[][]0", "[0 0 2 0 0 1/2]", "[][][][][][]")
	w.Machine.Springs[0] = machine.Spring{A: 1, B: 0, From: at("0 1"), To: at("1 0"), Stiff: num("12")}
	expectImpact(t, "the spring the other way", w, still("0", "0", "0 0"), "0", "[][]0", "[0 0 3 0 0 -3/2]", "[][][][][][]")
	w.Machine.Springs = append(w.Machine.Springs, w.Machine.Springs[0], machine.Spring{A: 0, B: 1, From: at("7 8")})
	expectImpact(t, "two springs, and one that is not stiff", w, still("0", "0", "0 0"), "0", "[][]0", "[0 0 6 0 0 -3]", "[][][][][][]")
	w = pair()
	w.Gravity = num("9")
	expectImpact(t, "a pair that falls", w, still("0", "0", "0 0"), "0", "[][]0", "[0 -9/2 0 0 -9/2 0]", "[][][][][][]")
	// A spring along the line between two bodies that have come apart draws
	// them together, and turns nothing; the hinge makes their velocities equal.
	w = pair()
	w.Machine.Springs = []machine.Spring{{A: 0, B: 1, Stiff: num("12")}}
	s := still("0", "0", "0 0")
	s.At[1] = at("0 2")
	system, _, e := motion.Impact(w, s, nums("0"))
	expectError(t, "Impact of bodies apart", e, api.OK)
	expect(t, "bodies that are drawn together", numsText(system.Free), "[0 0 0 0 0 0]")
}

// P6.2: the hinge's place is between the anchors.
func TestPlaceOfHinges(t *testing.T) {
	w := pair()
	w.Machine.Bodies[0].Inertia, w.Machine.Bodies[1].Mass, w.Machine.Bodies[1].Inertia = num("1"), num("1"), num("1")
	s := still("0", "0", "0 0")
	s.At[1] = at("2 0")
	s.Speed = nums("0 0 0 0 2 0")
	// The place is (1, 0): the blow there slows the arm, and turns both.
	expectImpact(t, "bodies that are apart", w, s, "0", "[][]0", "[0 1/2 1/2 0 3/2 1/2]", "[][][][][][]")
	w = pair()
	w.Machine.Bodies[0].Inertia, w.Machine.Bodies[1].Mass, w.Machine.Bodies[1].Inertia = num("1"), num("1"), num("1")
	w.Machine.Bodies[1].At, w.Machine.Bodies[1].Centre = at("1 0"), at("1 0")
	expectImpact(t, "bodies with a hinge between", w, s, "0", "[][]0", "[0 1/2 1/2 0 3/2 1/2]", "[][][][][][]")
}
