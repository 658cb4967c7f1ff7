package motion_test

import (
	"slices"
	"testing"

	"amble/api"
	"amble/contact"
	"amble/exact"
	"amble/machine"
	"amble/motion"
	"amble/pose"
)

// The properties of the chapter, for moments that look random.

func momentum(t *testing.T, w motion.World, s motion.State) (exact.Point, exact.Q) {
	t.Helper()
	linear, angular, e := motion.Momentum(w, s)
	expectError(t, "Momentum", e, api.OK)
	return linear, angular
}

func energy(t *testing.T, w motion.World, s motion.State) exact.Q {
	t.Helper()
	kinetic, _, e := motion.Energy(w, s)
	expectError(t, "Energy", e, api.OK)
	return kinetic
}

// P6.8: only gravity and the blows of the ground change the momentum.
func TestMomentumOfSteps(t *testing.T) {
	s := source(620)
	struck := 0
	for i := range 120 {
		m := s.moment(4, i%3)
		linear, angular := momentum(t, m.w, m.s)
		next, r := stepped(t, "any state", m.w, m.s, m.torques)
		for i, b := range m.w.Machine.Bodies {
			fall := exact.Point{Z: b.Mass.Mul(m.w.Gravity).Mul(m.w.Step).Neg()}
			linear, angular = linear.Add(fall), angular.Add(m.s.At[i].Cross(fall))
		}
		soles := slices.DeleteFunc(slices.Clone(r.Touches), func(x motion.Touch) bool { return x.Kind != motion.Sole })
		if len(r.Blows) != len(soles) {
			t.Fatal("blows of", touchesText(r.Touches), "are", pointsText(r.Blows))
		}
		for i, blow := range r.Blows {
			linear, angular = linear.Add(blow), angular.Add(soles[i].Point.Cross(blow))
			if blow.Dot(blow).Sign() > 0 {
				struck++
			}
		}
		gotLinear, gotAngular := momentum(t, m.w, next)
		expect(t, "the linear momentum after a step", pointText(gotLinear), pointText(linear))
		expect(t, "the angular momentum after a step", gotAngular.Text(), angular.Text())
	}
	if struck < 25 {
		t.Error("only", struck, "blows")
	}
}

// forceless returns a moment in which nothing adds energy.
func forceless(m moment) moment {
	m.w = changed(m.w, func(w *motion.World) { w.Gravity = exact.Q{} })
	for i := range m.w.Machine.Springs {
		m.w.Machine.Springs[i].Stiff = exact.Q{}
	}
	m.torques = make([]exact.Q, len(m.torques))
	return m
}

// P6.9: without forces the energy of the motion does not grow, and impacts only
// take some of it.
func TestEnergyOfSteps(t *testing.T) {
	s := source(621)
	lost := 0
	for i := range 120 {
		m := s.moment(4, i%3)
		_, r := stepped(t, "any state", m.w, m.s, m.torques)
		free := forceless(m)
		next, quiet := stepped(t, "a state without forces", free.w, free.s, free.torques)
		if r.Work.Sign() > 0 || quiet.Work.Sign() > 0 {
			t.Error("the work of a step is above 0:", r.Work.Text(), quiet.Work.Text())
		}
		before, after := energy(t, free.w, free.s), energy(t, free.w, next)
		if after.Cmp(before) > 0 {
			t.Error("the energy grows from", before.Text(), "to", after.Text())
		}
		if quiet.Work.Sign() < 0 {
			lost++
			if before.Add(quiet.Work).Cmp(after) < 0 {
				t.Error("an impact takes less than its work")
			}
		}
	}
	if lost < 25 {
		t.Error("only", lost, "impacts that take energy")
	}
}

// P6.10: after a step two bodies have one velocity at the place where their
// hinge was.
func TestHingesOfSteps(t *testing.T) {
	s := source(622)
	hinges, apart := 0, 0
	for i := range 100 {
		m := s.moment(5, i%3)
		next, _ := stepped(t, "any state", m.w, m.s, m.torques)
		for i, b := range m.w.Machine.Bodies {
			if i == 0 {
				continue
			}
			own, above := m.placed(i, exact.Point{}), m.placed(b.Parent, b.At)
			place := own.Add(above).Scale(num("1/2"))
			expect(t, "the velocity at a hinge", pointText(m.velocity(next.Speed, i, place)), pointText(m.velocity(next.Speed, b.Parent, place)))
			hinges++
			if pointText(own) != pointText(above) {
				apart++
			}
		}
	}
	if hinges < 100 || apart < 20 {
		t.Error("hinges:", hinges, "of which", apart, "have come apart")
	}
}

// P6.11: without restitution no touch goes on sinking.
func TestNothingSinks(t *testing.T) {
	s := source(623)
	seen := map[uint8]int{}
	for i := range 120 {
		m := s.moment(4, 1+i%3)
		m.w.E = exact.Q{}
		touches, all := m.touches()
		before := m.pushed()
		next, _ := stepped(t, "any state", m.w, m.s, m.torques)
		for i, r := range all {
			if dot(r.normal, next.Speed).Sign() < 0 {
				t.Error("a touch sinks:", touchesText(touches[i:i+1]), dot(r.normal, next.Speed).Text())
			}
			if dot(r.normal, before).Sign() < 0 {
				seen[touches[i].Kind]++
			}
		}
	}
	if seen[motion.Sole] < 25 || seen[motion.Stop] < 25 || seen[motion.Cord] < 15 {
		t.Error("touches that would sink:", seen)
	}
}

// P6.12: without cooling the heat never falls, and rises alike with the same
// torques.
func TestHeatOfSteps(t *testing.T) {
	s := source(624)
	motors := 0
	for range 150 {
		m := s.moment(3, 0)
		m.w = changed(m.w, func(*motion.World) {})
		for i := range m.w.Machine.Motors {
			m.w.Machine.Motors[i].Cooling = exact.Q{}
		}
		run, e := motion.Round(m.w, m.s, 8)
		expectError(t, "Round", e, api.OK)
		heats := [][]exact.Q{run.Heat}
		for range 2 {
			next, _, e := motion.Step(m.w, run, m.torques)
			if e != api.OK {
				break
			}
			heats = append(heats, next.Heat)
			heat := next.Heat
			run, _ = motion.Round(m.w, next, 8)
			run.Heat = heat
		}
		for i := range m.torques {
			motors++
			for k := 1; k < len(heats); k++ {
				rise := heats[k][i].Sub(heats[k-1][i])
				if rise.Sign() < 0 {
					t.Error("heat falls by", rise.Text())
				}
				expect(t, "the rise of heat", rise.Text(), heats[1][i].Sub(heats[0][i]).Text())
			}
		}
	}
	if motors < 40 {
		t.Error("only", motors, "motors")
	}
}

// flipped returns a point in the mirror.
func flipped(p exact.Point) exact.Point { return exact.Point{X: p.X.Neg(), Z: p.Z} }

// mirroredState returns a state in the mirror.
func mirroredState(s motion.State) motion.State {
	s = copyOf(s)
	for i := range s.At {
		s.At[i], s.Rot[i] = flipped(s.At[i]), s.Rot[i].Back()
		s.Speed[3*i], s.Speed[3*i+2] = s.Speed[3*i].Neg(), s.Speed[3*i+2].Neg()
	}
	return s
}

// mirrored returns a moment in the mirror.
func mirrored(t *testing.T, m moment) moment {
	t.Helper()
	mirror, e := machine.Mirror(m.w.Machine)
	expectError(t, "Mirror", e, api.OK)
	ground := make(pose.Ground, len(m.w.Ground))
	for i, p := range m.w.Ground {
		ground[len(ground)-1-i] = flipped(p)
	}
	w := m.w
	w.Machine, w.Ground = mirror, ground
	return moment{w, mirroredState(m.s), negated(m.torques)}
}

// P6.13: what happens in the mirror is what happens, in the mirror.
func TestMirrored(t *testing.T) {
	s := source(625)
	same, touched := 0, 0
	for i := range 120 {
		m := s.moment(4, i%3)
		system, touches, e := motion.Impact(m.w, m.s, m.torques)
		expectError(t, "Impact", e, api.OK)
		onCorner := slices.ContainsFunc(touches, func(x motion.Touch) bool {
			return x.Kind == motion.Sole && slices.ContainsFunc(m.w.Ground, func(p exact.Point) bool { return p.X.Cmp(x.Point.X) == 0 })
		})
		if is, _ := contact.Unique(system.Problem); !is || onCorner {
			continue
		}
		same++
		touched += min(1, len(touches))
		next, r := stepped(t, "any state", m.w, m.s, m.torques)
		other := mirrored(t, m)
		got, report := stepped(t, "a mirrored state", other.w, other.s, other.torques)
		expect(t, "the state in the mirror", stateText(got), stateText(mirroredState(next)))
		expect(t, "the hot motors in the mirror", intsText(report.Hot), intsText(r.Hot))
		expect(t, "the work in the mirror", report.Work.Text(), r.Work.Text())
	}
	if same < 60 || touched < 40 {
		t.Error("unique impacts:", same, touched)
	}
}

// P6.14: rounding changes little, and only once.
func TestRounding(t *testing.T) {
	s := source(626)
	for range 150 {
		w := s.world(5)
		state := s.state(w)
		k := s.below(65)
		fine := num("1")
		for range k {
			fine = fine.Add(fine)
		}
		rounded, e := motion.Round(w, state, k)
		expectError(t, "Round", e, api.OK)
		expectError(t, "Fits of a rounded state", motion.Fits(w, rounded), api.OK)
		off, e := motion.Off(w, state, rounded)
		expectError(t, "Off", e, api.OK)
		if off.Mul(fine).Cmp(num("1")) > 0 {
			t.Error("rounded to", k, "a state is off by", off.Text())
		}
		again, e := motion.Round(w, rounded, k)
		expectOK(t, "Round again", stateText(again), e, stateText(rounded))
	}
}

// centred returns the mean of the places of a state, weighted by the masses.
func centred(w motion.World, s motion.State) exact.Point {
	var sum exact.Point
	var weight exact.Q
	for i, b := range w.Machine.Bodies {
		sum, weight = sum.Add(s.At[i].Scale(b.Mass)), weight.Add(b.Mass)
	}
	return sum.Scale(over(num("1"), weight))
}

// P6.15: in the air the centre of mass falls, whatever the machine does.
func TestFlight(t *testing.T) {
	s := source(627)
	flights, touched := 0, 0
	for i := range 60 {
		m := s.moment(3, i%2)
		if len(m.s.At) == 3 && i%4 > 0 {
			continue
		}
		m.w.Ground = pose.Ground(points("0 -1000, 1 -1000"))
		weight, _ := machine.Weight(m.w.Machine)
		linear, _ := momentum(t, m.w, m.s)
		velocity := linear.Scale(over(num("1"), weight))
		begin, state := centred(m.w, m.s), m.s
		for n := 1; n <= 4-len(m.s.At); n++ {
			next, r, e := motion.Step(m.w, state, m.torques)
			if e != api.OK {
				expectError(t, "Step", e, api.ErrLimit)
				break
			}
			state = next
			flights, touched = flights+1, touched+len(r.Touches)
			steps := exact.Int(int64(n)).Mul(m.w.Step)
			fall, _ := exact.Of(int64(n*(n+1)), 2)
			way := velocity.Scale(steps).Sub(exact.Point{Z: fall.Mul(m.w.Step).Mul(m.w.Step).Mul(m.w.Gravity)})
			expect(t, "the centre of mass of what flies", pointText(centred(m.w, state)), pointText(begin.Add(way)))
			linear, _ := momentum(t, m.w, state)
			expect(t, "the velocity of what flies", pointText(linear.Scale(over(num("1"), weight))), pointText(velocity.Sub(exact.Point{Z: steps.Mul(m.w.Gravity)})))
		}
	}
	if flights < 60 || touched < 25 {
		t.Error("steps in the air, and touches:", flights, touched)
	}
}

// Every impact of a valid world has a solution: its velocities before are
// velocities of the machine.
func TestSolvable(t *testing.T) {
	s := source(628)
	for i := range 60 {
		m := s.moment(4, 2+i%3)
		for k := range m.w.Machine.Feet {
			m.w.Machine.Feet[k].Friction = s.positive()
		}
		_, _, e := motion.Step(m.w, m.s, m.torques)
		expectError(t, "Step", e, api.OK)
	}
}
