package motion_test

import (
	"slices"
	"strings"
	"testing"

	"amble/api"
	"amble/contact"
	"amble/exact"
	"amble/machine"
	"amble/motion"
	"amble/pose"
)

func expectStep(t *testing.T, name string, w motion.World, s motion.State, torques, state, report string) {
	t.Helper()
	next, r, e := motion.Step(w, s, nums(torques))
	expectOK(t, "Step of "+name, stateText(next), e, state)
	expect(t, "the report of "+name, reportText(r), report)
}

// P6.3: balls that fly, fall, slide, and jump.
func TestStepOfBalls(t *testing.T) {
	w := ball()
	expectStep(t, "a ball that flies", w, above(t, w, "0 2", "1 0 0"), "", "[(1/10 19/10)][1 0][1 -1 0][]", "||[]|[]|0|")
	expectStep(t, "a ball that falls", w, above(t, w, "0 1", "1 -3 0"), "", "[(1/10 1)][1 0][1 0 0][]", "1 0 0(0 0);|2|[2/5 0]|[(0 8)]|-16|")
	expectStep(t, "a ball that leaves", w, above(t, w, "0 1", "1 3 0"), "", "[(1/10 6/5)][1 0][1 2 0][]", "1 0 0(0 0);|0|[0 0]|[(0 0)]|0|")
	w.E = num("1/2")
	expectStep(t, "a ball that jumps", w, above(t, w, "0 1", "1 -3 0"), "", "[(1/10 6/5)][1 0][1 2 0][]", "1 0 0(0 0);|2|[3/5 0]|[(0 12)]|-12|")
	w = changed(ball(), func(w *motion.World) { w.Machine.Feet[0].Friction = num("1/4") })
	// The blow 8 with the friction 2 backward, below the centre: 1 - 1, and a turn back.
	expectStep(t, "a ball that slides", w, above(t, w, "0 1", "4 -3 0"), "", "[(3/10 1)][99/101 -20/101][3 0 -2][]", "1 0 0(0 0);|2|[2/5 -1/10]|[(-2 8)]|-21|")
	expectStep(t, "a ball that slides back", w, above(t, w, "0 1", "-4 -3 0"), "", "[(-3/10 1)][99/101 20/101][-3 0 2][]", "1 0 0(0 0);|3|[2/5 1/10]|[(2 8)]|-21|")
	expectStep(t, "a ball that rolls", w, above(t, w, "0 1", "1 -3 0"), "", "[(1/15 1)][899/901 -60/901][2/3 0 -2/3][]", "1 0 0(0 0);|1|[2/5 -1/30]|[(-2/3 8)]|-49/3|")
	w.Ground = pose.Ground(points("-3 -4, 3 4"))
	w.Gravity = exact.Q{}
	w.Machine.Feet[0] = machine.Foot{Body: 0, Points: points("0 0"), Friction: num("1/4")}
	// The ground's direction (6, 8) has the length 10; the normal is (-8, 6): the
	// ball comes straight on.
	expectStep(t, "a ball on a slope", w, above(t, w, "0 0", "8 -6 0"), "", "[(0 0)][1 0][0 0 0][]", "1 0 0(0 0);|1|[2 0]|[(-16 12)]|-100|")
	expectStep(t, "a ball that slides down", w, above(t, w, "0 0", "2 -14 0"), "", "[(-9/20 -3/5)][1 0][-9/2 -6 0][]", "1 0 0(0 0);|3|[2 1/2]|[(-13 16)]|-575/4|")
}

// P6.3: bodies with two feet, of which one is below the other one's ground.
func TestBlows(t *testing.T) {
	w := changed(ball(), func(w *motion.World) {
		w.Ground = pose.Ground(points("-2 0, 0 0, 3/2 2"))
		w.Machine.Feet = []machine.Foot{{Body: 0, Points: points("-1 0, -1 1"), Friction: num("1")}, {Body: 0, Points: points("0 -1")}, {Body: 0, Points: points("3/4 1"), Friction: num("2")}}
	})
	s := start(t, w, pose.Pose{}, "1 -4 1/2")
	next, r := stepped(t, "a body on three points", w, s, nil)
	expect(t, "the touches", touchesText(r.Touches), "1 0 0(-1 0);1 1 0(0 -1);1 2 0(3/4 1);")
	directions := points("2 0, 3/2 2, 3/2 2")
	var sum exact.Point
	for i, d := range directions {
		up := exact.Point{X: d.Z.Neg(), Z: d.X}
		blow := up.Scale(r.P[2*i]).Add(d.Scale(r.P[2*i+1]))
		expect(t, "a blow", pointText(r.Blows[i]), pointText(blow))
		sum = sum.Add(blow)
	}
	if len(r.Blows) != 3 || pointText(sum) == "(0 0)" {
		t.Error("blows:", pointsText(r.Blows))
	}
	gain := exact.Point{X: next.Speed[0].Sub(num("1")), Z: next.Speed[1].Add(num("4"))}.Scale(num("2"))
	expect(t, "the momentum of blows and gravity", pointText(gain), pointText(sum.Add(at("0 -2"))))
}

// P6.3: stops and cords have no blows.
func TestStepOfPairs(t *testing.T) {
	w := pair()
	expectStep(t, "a motor", w, still("0", "0", "0 0"), "8", "[(0 0)(0 0)][3/5 -4/5 15/17 8/17][0 0 -2 0 0 1][96]", "||[]|[]|0|0")
	expectStep(t, "an arm at its stop", w, still("0", "-1", "0 -3"), "0", "[(0 0)(0 0)][3/5 -4/5 -4/5 -3/5][0 0 -2 0 0 -2][0]", "2 1 0(0 0);|1|[4 0]|[]|-6|")
	expectStep(t, "an arm at its upper stop", w, still("0", "1", "0 3"), "0", "[(0 0)(0 0)][3/5 4/5 -4/5 3/5][0 0 2 0 0 2][0]", "2 1 1(0 0);|1|[4 0]|[]|-6|")
	expectStep(t, "an arm that leaves its stop", w, still("0", "-1", "0 3"), "0", "[(0 0)(0 0)][1 0 24/25 -7/25][0 0 0 0 0 3][0]", "2 1 0(0 0);|0|[0 0]|[]|0|")
	w.E = num("1")
	expectStep(t, "an arm that comes back", w, still("0", "-1", "0 -3"), "0", "[(0 0)(0 0)][0 -1 -8/17 -15/17][0 0 -4 0 0 -1][0]", "2 1 0(0 0);|1|[8 0]|[]|0|")
	expectStep(t, "a tendon", roped("5"), still("0", "0", "-1 1"), "0", "[(0 0)(0 0)][143/145 24/145 143/145 24/145][0 0 1/3 0 0 1/3][0]", "3 0 0(0 0);|1|[2/9 0]|[]|-8/3|")
	expectStep(t, "a loose tendon", roped("5"), still("0", "0", "1 -1"), "0", "[(0 0)(0 0)][15/17 8/17 15/17 -8/17][0 0 1 0 0 -1][0]", "3 0 0(0 0);|0|[0 0]|[]|0|")
}

// P6.3: the heat of motors.
func TestHeat(t *testing.T) {
	w := pair()
	for _, x := range []struct{ before, torque, after, hot string }{
		{"0", "0", "0", ""}, {"10", "0", "9", ""}, {"-10", "0", "-9", ""},
		{"0", "2", "6", ""}, {"0", "-2", "6", ""}, {"10", "1", "21/2", "0"},
		{"40/9", "2", "10", ""}, {"401/90", "2", "1001/100", "0"}, {"100/9", "0", "10", ""}, {"101/9", "0", "101/10", "0"},
	} {
		s := still("0", "0", "0 0")
		s.Heat = nums(x.before)
		next, r := stepped(t, "a warm motor", w, s, nums(x.torque))
		expect(t, "the heat after "+x.before, numsText(next.Heat)+intsText(r.Hot), "["+x.after+"]"+x.hot)
	}
	w = changed(walker(), func(w *motion.World) {
		w.Machine.Motors = []machine.Motor{
			{Body: 2, Torque: num("9"), Heating: num("10"), Most: num("89")},
			{Body: 1, Torque: num("9"), Heating: num("20"), Cooling: num("10"), Most: num("8")},
		}
	})
	s := start(t, w, pose.Pose{At: at("0 40"), Joints: nums("0 0")}, "0 0 0 0 0")
	s.Heat = nums("80 1")
	for torques, want := range map[string]string{"3 2": "[89 8]", "-3 -2": "[89 8]", "4 0": "[96 0]0", "0 3": "[80 18]1", "4 3": "[96 18]0 1", "0 0": "[80 0]"} {
		next, r := stepped(t, "two motors", w, s, nums(torques))
		expect(t, "the heat of two motors with "+torques, numsText(next.Heat)+intsText(r.Hot), want)
	}
}

// P6.3: any steps.
func TestStepAny(t *testing.T) {
	s := source(605)
	hot, struck := 0, 0
	for i := range 250 {
		m := s.moment(4, i%4)
		next, r := stepped(t, "any state", m.w, m.s, m.torques)
		want, report := m.step()
		expect(t, "Step", stateText(next), stateText(want))
		expect(t, "the report of Step", reportText(r), reportText(report))
		expectError(t, "Fits of a new state", motion.Fits(m.w, next), api.OK)
		hot += len(r.Hot)
		if r.Work.Sign() < 0 {
			struck++
		}
	}
	if hot < 20 || struck < 60 {
		t.Error("hot motors and blows:", hot, struck)
	}
}

// P6.3: the impulses of a step are a solution of the impact.
func TestStepSolves(t *testing.T) {
	s := source(606)
	for range 60 {
		m := s.moment(4, 1)
		_, r := stepped(t, "any state", m.w, m.s, m.torques)
		system, _, e := motion.Impact(m.w, m.s, m.torques)
		expectError(t, "Impact", e, api.OK)
		faults, e := contact.Broken(system.Problem, r.P)
		if e != api.OK || len(faults) > 0 {
			t.Error("the impulses of a step break", faults, e)
		}
		words, e := contact.Words(system.Problem)
		expectError(t, "Words", e, api.OK)
		expect(t, "the word of a step", wordText(r.Word), wordText(words[0]))
	}
}

// P6.4: a run is steps, each rounded.
func TestRun(t *testing.T) {
	s := source(607)
	touched := 0
	for i := range 40 {
		m := s.moment(3, i%3)
		k := []int{0, 3, 10, 20, 64}[s.below(5)]
		var torques [][]exact.Q
		for range s.below(5) {
			torques = append(torques, s.torques(m.w))
		}
		want, wantError := m.s, api.OK
		var reports []motion.Report
		for _, l := range torques {
			next, r, e := motion.Step(m.w, want, l)
			if e != api.OK {
				want, reports, wantError = motion.State{}, nil, e
				break
			}
			want, e = motion.Round(m.w, next, k)
			expectError(t, "Round", e, api.OK)
			reports = append(reports, r)
			touched += len(r.Touches)
		}
		got, all, e := motion.Run(m.w, m.s, torques, k)
		expectError(t, "Run", e, wantError)
		expect(t, "Run", stateText(got)+reportsText(all), stateText(want)+reportsText(reports))
	}
	if touched < 20 {
		t.Error("only", touched, "touches")
	}
}

// P6.4: runs that can be seen.
func TestRunOfBall(t *testing.T) {
	w := ball()
	s := above(t, w, "1/3 2", "1/3 0 0")
	got, reports, e := motion.Run(w, s, nil, 3)
	expectOK(t, "Run of no steps", stateText(got)+reportsText(reports), e, stateText(s))
	got, reports, e = motion.Run(w, s, make([][]exact.Q, 1), 3)
	// (11/30 19/10) and 1/3 become multiples of 1/8.
	expectOK(t, "Run of a step", stateText(got)+reportsText(reports), e, "[(3/8 15/8)][1 0][3/8 -1 0][]{||[]|[]|0|}")
	got, reports, e = motion.Run(w, s, make([][]exact.Q, 2), 0)
	// From (11/30 19/10) to (0 2), from there to (0 9/5), and (0 2) again.
	expectOK(t, "Run with integers", stateText(got)+reportsText(reports), e, "[(0 2)][1 0][0 -2 0][]{||[]|[]|0|}{||[]|[]|0|}")
	got, reports, e = motion.Run(w, above(t, w, "0 1", "1 -3 0"), make([][]exact.Q, 2), 64)
	if e != api.OK || len(reports) != 2 || reportText(reports[0]) != "1 0 0(0 0);|2|[2/5 0]|[(0 8)]|-16|" || numsText(got.Speed) != "[1 0 0]" {
		t.Error("Run of a ball that falls:", stateText(got), reportsText(reports), e)
	}
}

// P6.4: as many steps as a run may have, and one more; all k, and others.
func TestRunLimits(t *testing.T) {
	w := ball()
	s := above(t, w, "0 900", "0 0 0")
	got, reports, e := motion.Run(w, s, make([][]exact.Q, api.MaxRun), 64)
	expectError(t, "Run of 64 steps", e, api.OK)
	// 64 · 65 / 2 · 1/10 below.
	if len(reports) != 64 || got.At[0].Z.Sub(num("692")).Abs().Cmp(num("1/1000000")) > 0 {
		t.Error("a ball that falls for 64 steps:", stateText(got))
	}
	for _, x := range []struct {
		steps, k int
		want     api.Errno
	}{
		{1, 0, api.OK}, {1, 64, api.OK}, {0, 64, api.OK}, {1, -1, api.ErrRange}, {1, 65, api.ErrRange},
		{0, -1, api.ErrRange}, {0, 65, api.ErrRange}, {65, 0, api.ErrLimit}, {65, -1, api.ErrLimit}, {1000, 65, api.ErrLimit},
	} {
		got, reports, e := motion.Run(w, s, make([][]exact.Q, x.steps), x.k)
		expectError(t, "Run with limits", e, x.want)
		if e != api.OK {
			expect(t, "Run with an error", stateText(got)+reportsText(reports), stateText(motion.State{}))
		} else if len(reports) != x.steps {
			t.Error("reports of a run:", len(reports))
		}
	}
}

// P6.4: the first step with an error ends a run, without a result.
func TestRunErrors(t *testing.T) {
	w := pair()
	s := still("0", "0", "0 0")
	for text, want := range map[string]api.Errno{
		"1, 2, 3": api.OK, "1, 9, 3": api.ErrRange, "9, 1 1": api.ErrRange, "1 1, 9": api.ErrArg, "1, 2, -9": api.ErrRange,
		"1, 2, 3 4": api.ErrArg, "1 9": api.ErrArg,
	} {
		got, reports, e := motion.Run(w, s, lists(text), 20)
		expectError(t, "Run with the torques "+text, e, want)
		if e != api.OK {
			expect(t, "Run with an error", stateText(got)+reportsText(reports), stateText(motion.State{}))
		}
		_, _, e = motion.Run(w, s, lists(text), 65)
		expectError(t, "Run with a bad k and the torques "+text, e, api.ErrRange)
	}
	_, _, e := motion.Run(w, s, [][]exact.Q{nums("1"), nil}, 20)
	expectError(t, "Run with a step without torques", e, api.ErrArg)
	// A ball of five feet that is above the ground at first.
	many := changed(ball(), func(w *motion.World) {
		for i := range 4 {
			w.Machine.Feet = append(w.Machine.Feet, machine.Foot{Body: 0, Points: []exact.Point{{X: exact.Int(int64(i + 1)), Z: num("-1")}}})
		}
	})
	high := above(t, many, "0 5/4", "0 -1 0")
	_, _, e = motion.Run(many, high, make([][]exact.Q, 2), 64)
	expectError(t, "Run of a ball until it touches", e, api.OK)
	_, _, e = motion.Run(many, high, make([][]exact.Q, 3), 64)
	expectError(t, "Run of a ball that touches too often", e, api.ErrLimit)
	_, _, e = motion.Run(many, high, slices.Repeat(lists("1"), 3), 64)
	expectError(t, "Run of a ball with torques", e, api.ErrArg)
}

// P6.3: a chapter's walker that stands on a wide foot stays where it is.
func TestStanding(t *testing.T) {
	w := changed(walker(), func(w *motion.World) {
		w.Machine.Feet = []machine.Foot{{Body: 2, Points: points("-1 -2, 1 -2"), Friction: num("1/2")}}
		w.Machine.Bodies[1].Low, w.Machine.Bodies[2].High = exact.Q{}, exact.Q{}
	})
	s := start(t, w, pose.Pose{At: at("0 4"), Joints: nums("0 0")}, "0 0 0 0 0")
	next, r := stepped(t, "a walker that stands", w, s, nil)
	expect(t, "a walker that stands", stateText(next), stateText(s))
	if len(r.Blows) != 2 || r.Blows[0].Z.Add(r.Blows[1].Z).Cmp(num("4")) != 0 || strings.Count(touchesText(r.Touches), ";") != 4 {
		t.Error("the report of a walker that stands:", reportText(r))
	}
}
