package motion_test

import (
	"slices"
	"testing"

	"amble/api"
	"amble/exact"
	"amble/machine"
	"amble/motion"
	"amble/pose"
)

// P6.1: worlds that are valid, and others.
func TestCheck(t *testing.T) {
	for name, change := range map[string]func(*motion.World){
		"nothing else":         func(*motion.World) {},
		"no gravity":           func(w *motion.World) { w.Gravity = exact.Q{} },
		"a tiny step":          func(w *motion.World) { w.Step = num("1/1000000") },
		"a long step":          func(w *motion.World) { w.Step = num("1000") },
		"the restitution 1":    func(w *motion.World) { w.E = num("1") },
		"a short ground":       func(w *motion.World) { w.Ground = pose.Ground(points("0 1, 1/9 5")) },
		"the longest ground":   func(w *motion.World) { w.Ground = rising(api.MaxGround) },
		"springs, motors, all": func(w *motion.World) { w.Machine = all() },
	} {
		expectError(t, "Check with "+name, motion.Check(changed(ball(), change)), api.OK)
	}
	for name, change := range map[string]func(*motion.World){
		"gravity upward":           func(w *motion.World) { w.Gravity = num("-1/9") },
		"no step":                  func(w *motion.World) { w.Step = exact.Q{} },
		"a step back":              func(w *motion.World) { w.Step = num("-1") },
		"a restitution below 0":    func(w *motion.World) { w.E = num("-1/1000") },
		"a restitution above 1":    func(w *motion.World) { w.E = num("1001/1000") },
		"no ground":                func(w *motion.World) { w.Ground = nil },
		"a ground of one point":    func(w *motion.World) { w.Ground = w.Ground[:1] },
		"a ground with a wall":     func(w *motion.World) { w.Ground = pose.Ground(points("0 0, 1 0, 1 1")) },
		"a ground that leads back": func(w *motion.World) { w.Ground = pose.Ground(points("0 0, 1 0, 1/2 1")) },
		"a ground that is too long": func(w *motion.World) {
			w.Ground = rising(api.MaxGround + 1)
		},
		"no bodies":            func(w *motion.World) { w.Machine.Bodies = nil },
		"a body without mass":  func(w *motion.World) { w.Machine.Bodies[0].Mass = exact.Q{} },
		"a foot on no body":    func(w *motion.World) { w.Machine.Feet[0].Body = 1 },
		"a motor at the trunk": func(w *motion.World) { w.Machine.Motors = []machine.Motor{{Most: num("1")}} },
	} {
		expectError(t, "Check with "+name, motion.Check(changed(ball(), change)), api.ErrArg)
	}
}

// rising returns a ground with so many points.
func rising(points int) pose.Ground {
	var g pose.Ground
	for i := range points {
		g = append(g, exact.Point{X: exact.Int(int64(i)), Z: exact.Int(int64(i % 3))})
	}
	return g
}

// all returns a machine with something of each kind.
func all() machine.Machine {
	m := pair().Machine
	m.Springs = []machine.Spring{{A: 0, B: 1, From: at("1 0"), To: at("0 1"), Stiff: num("2")}}
	m.Tendons = []machine.Tendon{{A: 0, B: 1, From: at("3 0"), To: at("0 4"), Length: num("6")}}
	m.Feet = []machine.Foot{{Body: 1, Points: points("0 -1, 1 -1"), Friction: num("1/2")}}
	return m
}

// P6.1, R1: the error of the machine is the first one.
func TestCheckOrder(t *testing.T) {
	bad := func(w *motion.World) { w.Ground, w.Step, w.E = nil, num("-1"), num("2") }
	for name, x := range map[string]struct {
		change func(*motion.World)
		want   api.Errno
	}{
		"no name":         {func(w *motion.World) { w.Machine.Name = "" }, api.ErrName},
		"two names":       {func(w *motion.World) { w.Machine = pair().Machine; w.Machine.Bodies[1].Name = "trunk" }, api.ErrTwice},
		"too many bodies": {func(w *motion.World) { w.Machine.Bodies = make([]machine.Body, api.MaxBodies+1) }, api.ErrLimit},
		"too many feet": {func(w *motion.World) {
			w.Machine.Feet = slices.Repeat(w.Machine.Feet, api.MaxFeet+1)
		}, api.ErrLimit},
	} {
		expectError(t, "Check with "+name, motion.Check(changed(ball(), x.change)), x.want)
		w := changed(ball(), func(w *motion.World) { x.change(w); bad(w) })
		expectError(t, "Check with "+name+" and a bad ground", motion.Check(w), x.want)
	}
}

// P6.1: states that fit, and others.
func TestFits(t *testing.T) {
	w := pair()
	good := still("0", "1/2", "0 0")
	for name, change := range map[string]func(*motion.State){
		"nothing else":             func(*motion.State) {},
		"bodies that do not meet":  func(s *motion.State) { s.At[1] = at("100 -300") },
		"a half turn":              func(s *motion.State) { s.Rot[0] = rot("-1 0") },
		"an arm beyond its limits": func(s *motion.State) { s.Rot[1] = rot("-3/5 4/5") },
		"heat below 0":             func(s *motion.State) { s.Heat[0] = num("-7") },
		"much heat":                func(s *motion.State) { s.Heat[0] = num("1000") },
	} {
		s := copyOf(good)
		change(&s)
		expectError(t, "Fits with "+name, motion.Fits(w, s), api.OK)
	}
	for name, s := range misfits(good) {
		expectError(t, "Fits with "+name, motion.Fits(w, s), api.ErrArg)
	}
	expectError(t, "Fits of the state of another machine", motion.Fits(ball(), good), api.ErrArg)
	expectError(t, "Fits in a world without a step", motion.Fits(changed(w, func(w *motion.World) { w.Step = exact.Q{} }), good), api.ErrArg)
	expectError(t, "Fits in a world without a name", motion.Fits(changed(w, func(w *motion.World) { w.Machine.Name = "" }), motion.State{}), api.ErrName)
}

// copyOf returns a state in new memory.
func copyOf(s motion.State) motion.State {
	return motion.State{At: slices.Clone(s.At), Rot: slices.Clone(s.Rot), Speed: slices.Clone(s.Speed), Heat: slices.Clone(s.Heat)}
}

// misfits returns states that do not fit, made of one that does.
func misfits(good motion.State) map[string]motion.State {
	all := map[string]motion.State{"nothing at all": {}}
	for name, change := range map[string]func(*motion.State){
		"a place too few":        func(s *motion.State) { s.At = s.At[1:] },
		"a place too many":       func(s *motion.State) { s.At = append(s.At, at("0 0")) },
		"a rotation too few":     func(s *motion.State) { s.Rot = s.Rot[1:] },
		"a rotation too many":    func(s *motion.State) { s.Rot = append(s.Rot, rot("1 0")) },
		"a velocity too few":     func(s *motion.State) { s.Speed = s.Speed[1:] },
		"a velocity too many":    func(s *motion.State) { s.Speed = append(s.Speed, exact.Q{}) },
		"no velocities":          func(s *motion.State) { s.Speed = nil },
		"no heat":                func(s *motion.State) { s.Heat = nil },
		"heat too much":          func(s *motion.State) { s.Heat = append(s.Heat, exact.Q{}) },
		"no rotation":            func(s *motion.State) { s.Rot[0] = exact.Rot{} },
		"a rotation that grows":  func(s *motion.State) { s.Rot[1] = rot("1 1/100") },
		"a rotation too short":   func(s *motion.State) { s.Rot[1] = rot("3/5 3/5") },
		"a body more everywhere": func(s *motion.State) { *s = longer(*s) },
	} {
		s := copyOf(good)
		change(&s)
		all[name] = s
	}
	return all
}

// longer returns a state with a body more.
func longer(s motion.State) motion.State {
	return motion.State{At: append(s.At, at("0 0")), Rot: append(s.Rot, rot("1 0")), Speed: append(s.Speed, nums("0 0 0")...), Heat: s.Heat}
}

// states returns all calls that get a state, and what error they have.
func states(w motion.World, s motion.State) map[string]func() api.Errno {
	return map[string]func() api.Errno{
		"Fits":       func() api.Errno { return motion.Fits(w, s) },
		"Touches":    func() api.Errno { _, e := motion.Touches(w, s); return e },
		"Impact":     func() api.Errno { _, _, e := motion.Impact(w, s, nums("100 100")); return e },
		"Step":       func() api.Errno { _, _, e := motion.Step(w, s, nums("100 100")); return e },
		"Run":        func() api.Errno { _, _, e := motion.Run(w, s, make([][]exact.Q, api.MaxRun+1), -1); return e },
		"Energy":     func() api.Errno { _, _, e := motion.Energy(w, s); return e },
		"Momentum":   func() api.Errno { _, _, e := motion.Momentum(w, s); return e },
		"Drift":      func() api.Errno { _, e := motion.Drift(w, s); return e },
		"Pose":       func() api.Errno { _, e := motion.Pose(w, s); return e },
		"Round":      func() api.Errno { _, e := motion.Round(w, s, -1); return e },
		"Off":        func() api.Errno { _, e := motion.Off(w, s, s); return e },
		"Off of two": func() api.Errno { _, e := motion.Off(w, still("0", "0", "0 0"), s); return e },
	}
}

// R1: all calls first have the error of the world, then that of the state.
func TestErrorsOfAllCalls(t *testing.T) {
	for _, x := range []struct {
		change func(*motion.World)
		want   api.Errno
	}{
		{func(w *motion.World) { w.Machine.Name = "1" }, api.ErrName},
		{func(w *motion.World) { w.Machine.Bodies[1].Name = "trunk" }, api.ErrTwice},
		{func(w *motion.World) { w.Machine.Feet = make([]machine.Foot, api.MaxFeet+1) }, api.ErrLimit},
		{func(w *motion.World) { w.E = num("2") }, api.ErrArg},
	} {
		w := changed(pair(), x.change)
		for _, s := range []motion.State{still("0", "0", "0 0"), {}} {
			for name, call := range states(w, s) {
				expectError(t, name+" in a bad world", call(), x.want)
			}
		}
		_, e := motion.Start(w, pose.Pose{}, nil)
		expectError(t, "Start in a bad world", e, x.want)
	}
	for kind, s := range misfits(still("0", "0", "0 0")) {
		for name, call := range states(pair(), s) {
			expectError(t, name+" with "+kind, call(), api.ErrArg)
		}
	}
}

// P6.1: what Start does not take.
func TestStartErrors(t *testing.T) {
	w, p := walker(), pose.Pose{At: at("0 4"), Joints: nums("0 0")}
	for _, speeds := range []string{"", "1", "0 0 0 0", "0 0 0 0 0 0"} {
		s, e := motion.Start(w, p, nums(speeds))
		expectError(t, "Start with the speeds "+speeds, e, api.ErrArg)
		expect(t, "Start with an error", stateText(s), stateText(motion.State{}))
	}
	for _, joints := range []string{"", "0", "0 0 0"} {
		_, e := motion.Start(w, pose.Pose{Joints: nums(joints)}, nums("0 0 0 0 0"))
		expectError(t, "Start with the joints "+joints, e, api.ErrArg)
	}
	_, e := motion.Start(w, pose.Pose{Joints: nums("0 0 0")}, nums("0 0 0 0 0 0"))
	expectError(t, "Start with the pose and the speeds of another machine", e, api.ErrArg)
	_, e = motion.Start(w, pose.Pose{Joints: nums("77 -99")}, nums("0 0 0 0 0"))
	expectError(t, "Start beyond the limits of hinges", e, api.OK)
}

// R1: the errors of a step, in order.
func TestStepErrors(t *testing.T) {
	w := crowded(5)
	s := still("0", "0", "0 0")
	for _, x := range []struct {
		torques string
		want    api.Errno
	}{
		{"", api.ErrArg}, {"1 1", api.ErrArg}, {"100 100", api.ErrArg},
		{"9", api.ErrRange}, {"-9", api.ErrRange}, {"801/100", api.ErrRange}, {"-801/100", api.ErrRange},
		{"8", api.ErrLimit}, {"-8", api.ErrLimit}, {"0", api.ErrLimit},
	} {
		system, touches, e := motion.Impact(w, s, nums(x.torques))
		expectError(t, "Impact with the torques "+x.torques, e, x.want)
		if systemText(system) != "[][]0|[]|" || len(touches) > 0 {
			t.Error("Impact with an error gives", systemText(system), touchesText(touches))
		}
		next, r, e := motion.Step(w, s, nums(x.torques))
		expectError(t, "Step with the torques "+x.torques, e, x.want)
		expect(t, "Step with an error", stateText(next)+reportText(r), stateText(motion.State{})+reportText(motion.Report{}))
		_, _, e = motion.Run(w, s, [][]exact.Q{nums(x.torques)}, 0)
		expectError(t, "Run with the torques "+x.torques, e, x.want)
	}
	touches, e := motion.Touches(w, s)
	if e != api.OK || len(touches) != 5 {
		t.Error("Touches of five touches:", touchesText(touches), e)
	}
	four := crowded(4)
	for _, torque := range []string{"8", "-8", "0"} {
		_, touches, e := motion.Impact(four, s, nums(torque))
		expectError(t, "Impact of four touches", e, api.OK)
		_, r, e := motion.Step(four, s, nums(torque))
		expectError(t, "Step of four touches", e, api.OK)
		if len(touches) != 4 || len(r.Word) != 4 {
			t.Error("four touches:", touchesText(touches), wordText(r.Word))
		}
	}
}

// crowded returns a world in which the still pair has so many touches: two
// stops, and tendons.
func crowded(touches int) motion.World {
	return changed(pair(), func(w *motion.World) {
		w.Machine.Bodies[1].Low, w.Machine.Bodies[1].High = exact.Q{}, exact.Q{}
		for i := range touches - 2 {
			to := exact.Point{X: exact.Int(int64(1 + i)), Z: exact.Int(2)}
			w.Machine.Tendons = append(w.Machine.Tendons, machine.Tendon{A: 0, B: 1, From: at("3 0"), To: to, Length: num("1")})
		}
	})
}

// R1: the first motor with a torque beyond its limits counts, behind the number
// of torques.
func TestTorquesOfSeveralMotors(t *testing.T) {
	w := changed(walker(), func(w *motion.World) {
		w.Machine.Motors = []machine.Motor{{Body: 2, Torque: num("1/2"), Most: num("1")}, {Body: 1, Most: num("1")}}
	})
	s := start(t, w, pose.Pose{At: at("0 40"), Joints: nums("0 0")}, "0 0 0 0 0")
	for torques, want := range map[string]api.Errno{
		"1/2 0": api.OK, "-1/2 0": api.OK, "0 0": api.OK,
		"1/2": api.ErrArg, "1/2 0 0": api.ErrArg, "7": api.ErrArg,
		"0 1/9": api.ErrRange, "0 -1/9": api.ErrRange, "2/3 0": api.ErrRange, "1/2 1/2": api.ErrRange,
	} {
		_, _, e := motion.Step(w, s, nums(torques))
		expectError(t, "Step with the torques "+torques, e, want)
		_, _, e = motion.Impact(w, s, nums(torques))
		expectError(t, "Impact with the torques "+torques, e, want)
	}
}
