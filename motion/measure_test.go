package motion_test

import (
	"testing"

	"amble/api"
	"amble/exact"
	"amble/machine"
	"amble/motion"
)

func expectEnergy(t *testing.T, name string, w motion.World, s motion.State, kinetic, potential string) {
	t.Helper()
	k, p, e := motion.Energy(w, s)
	expectOK(t, "Energy of "+name, k.Text()+" "+p.Text(), e, kinetic+" "+potential)
}

func expectMomentum(t *testing.T, name string, w motion.World, s motion.State, linear, angular string) {
	t.Helper()
	l, a, e := motion.Momentum(w, s)
	expectOK(t, "Momentum of "+name, pointText(l)+a.Text(), e, linear+angular)
}

// P6.5: energies that can be seen.
func TestEnergy(t *testing.T) {
	w := ball()
	expectEnergy(t, "a ball", w, above(t, w, "0 2", "1 0 0"), "1", "40")
	expectEnergy(t, "a ball below 0", w, above(t, w, "5 -1/2", "-3 4 0"), "25", "-10")
	expectEnergy(t, "a ball that turns", w, above(t, w, "0 0", "0 0 -3"), "9/2", "0")
	w = pair()
	expectEnergy(t, "a pair that turns", w, still("0", "0", "1 -3"), "19", "0")
	w.Machine.Springs = []machine.Spring{{A: 0, B: 1, From: at("3 0"), To: at("0 4"), Stiff: num("1/5")}, {A: 1, B: 0, From: at("0 1"), Stiff: num("4")}, {A: 0, B: 1, From: at("7 8")}}
	expectEnergy(t, "springs", w, still("0", "0", "0 0"), "0", "9/2")
	expectEnergy(t, "springs that turn with the arm", w, still("0", "1", "0 0"), "0", "69/10")
	s := still("0", "0", "0 0")
	s.At[1], w.Gravity = at("0 -2"), num("10")
	expectEnergy(t, "springs and gravity", w, s, "0", "-567/10")
	s.Speed = nums("2 1 0 -1 1/3 0")
	expectEnergy(t, "bodies that come apart", w, s, "25/6", "-567/10")
}

// P6.5: momenta that can be seen.
func TestMomentum(t *testing.T) {
	w := ball()
	s := above(t, w, "0 2", "1 0 0")
	expectMomentum(t, "a ball", w, s, "(2 0)", "-4")
	next, _ := stepped(t, "a ball", w, s, nil)
	expectMomentum(t, "a ball after a step", w, next, "(2 -2)", "-4")
	expectMomentum(t, "a ball that turns", w, above(t, w, "3 2", "1/2 -1 7"), "(1 -2)", "-1")
	expectMomentum(t, "a ball that stands", w, above(t, w, "3 2", "0 0 0"), "(0 0)", "0")
	w = pair()
	s = still("1/2", "1/3", "1 -3")
	expectMomentum(t, "a pair that turns", w, s, "(0 0)", "-10")
	s.At, s.Speed = points("1 0, 0 2"), nums("5 6 0 1 -1 0")
	expectMomentum(t, "bodies apart", w, s, "(8 3)", "0")
	s.Speed = nums("5 7 0 1 -1 1/2")
	expectMomentum(t, "bodies apart that turn", w, s, "(8 4)", "3")
}

// P6.5: drifts that can be seen.
func TestDrift(t *testing.T) {
	drift, e := motion.Drift(ball(), above(t, ball(), "0 2", "1 0 0"))
	expectOK(t, "Drift of a ball", pointsText(drift), e, "[]")
	s := still("0", "1", "0 0")
	s.At[1] = at("1/3 -2")
	drift, e = motion.Drift(pair(), s)
	expectOK(t, "Drift of a pair", pointsText(drift), e, "[(1/3 -2)]")
	w := walker()
	state := motion.State{At: points("1 1, 1 0, 1 -3"), Rot: []exact.Rot{rot("1 0"), rot("1 0"), rot("0 1")}, Speed: make([]exact.Q, 9)}
	// The leg's end is at (1, -1), the shin's beginning at (1, -3) + (0, 1), turned.
	drift, e = motion.Drift(w, state)
	expectOK(t, "Drift of a walker", pointsText(drift), e, "[(0 0)(-1 -2)]")
	state.Rot[1] = rot("0 1")
	drift, e = motion.Drift(w, state)
	expectOK(t, "Drift of a turned walker", pointsText(drift), e, "[(-1 -1)(-2 -3)]")
}

// P6.5: the measures of any states.
func TestMeasuresAny(t *testing.T) {
	s := source(608)
	for range 150 {
		w := s.world(6)
		m := moment{w: w, s: s.state(w)}
		var kinetic, potential, angular exact.Q
		var linear exact.Point
		var drifts []exact.Point
		for i, b := range w.Machine.Bodies {
			v := exact.Point{X: m.s.Speed[3*i], Z: m.s.Speed[3*i+1]}
			turning := m.s.Speed[3*i+2]
			kinetic = exact.Sum(kinetic, over(b.Mass.Mul(v.Dot(v)), num("2")), over(b.Inertia.Mul(turning.Mul(turning)), num("2")))
			potential = potential.Add(b.Mass.Mul(w.Gravity).Mul(m.s.At[i].Z))
			linear = linear.Add(v.Scale(b.Mass))
			angular = exact.Sum(angular, m.s.At[i].Cross(v).Mul(b.Mass), b.Inertia.Mul(turning))
			if i > 0 {
				drifts = append(drifts, m.placed(i, exact.Point{}).Sub(m.placed(b.Parent, b.At)))
			}
		}
		for _, k := range w.Machine.Springs {
			d := m.placed(k.A, k.From).Sub(m.placed(k.B, k.To))
			potential = potential.Add(over(k.Stiff.Mul(d.Dot(d)), num("2")))
		}
		expectEnergy(t, "any state", w, m.s, kinetic.Text(), potential.Text())
		expectMomentum(t, "any state", w, m.s, pointText(linear), angular.Text())
		drift, e := motion.Drift(w, m.s)
		expectOK(t, "Drift", pointsText(drift), e, pointsText(drifts))
	}
}

// P6.7: how far two states are off.
func TestOff(t *testing.T) {
	w := pair()
	s := still("0", "1/2", "3 -4")
	expectOff := func(name, want string, change func(*motion.State)) {
		t.Helper()
		other := copyOf(s)
		change(&other)
		off, e := motion.Off(w, s, other)
		expectOK(t, "Off of "+name, off.Text(), e, want)
		back, e := motion.Off(w, other, s)
		expectOK(t, "Off back, of "+name, back.Text(), e, want)
	}
	expectOff("the same state", "0", func(*motion.State) {})
	expectOff("a body that is moved", "2", func(s *motion.State) { s.At[1] = at("1 -2") })
	expectOff("a trunk that is moved", "5", func(s *motion.State) { s.At[0] = at("-5 1") })
	expectOff("a turned body", "8/5", func(s *motion.State) { s.Rot[1] = rot("-1 0") })
	expectOff("a body turned back", "8/5", func(s *motion.State) { s.Rot[1] = rot("3/5 -4/5") })
	expectOff("a turned trunk", "1", func(s *motion.State) { s.Rot[0] = rot("0 1") })
	expectOff("a fast body", "7/2", func(s *motion.State) { s.Speed[4] = num("-7/2") })
	expectOff("a fast trunk", "1/3", func(s *motion.State) { s.Speed[0] = num("1/3") })
	expectOff("a body that turns more slowly", "4", func(s *motion.State) { s.Speed[5] = num("0") })
	expectOff("a warm motor", "9", func(s *motion.State) { s.Heat[0] = num("9") })
	expectOff("a cold motor", "1/9", func(s *motion.State) { s.Heat[0] = num("-1/9") })
	expectOff("much that is different", "6", func(s *motion.State) {
		s.Heat[0], s.Speed[1], s.At[0], s.Rot[0] = num("5"), num("-6"), at("3 -4"), rot("-1 0")
	})
}

// P6.7: the errors of Off.
func TestOffErrors(t *testing.T) {
	w, good := pair(), still("0", "0", "0 0")
	for name, s := range misfits(good) {
		off, e := motion.Off(w, good, s)
		expectError(t, "Off of a state and one with "+name, e, api.ErrArg)
		expect(t, "Off with an error", off.Text(), "0")
		off, e = motion.Off(w, s, good)
		expectError(t, "Off of a state with "+name, e, api.ErrArg)
		expect(t, "Off with an error", off.Text(), "0")
	}
}

func expectRounded(t *testing.T, k int, w motion.World, s motion.State, want string) {
	t.Helper()
	got, e := motion.Round(w, s, k)
	expectOK(t, "Round", stateText(got), e, want)
}

// P6.7: states that are rounded.
func TestRound(t *testing.T) {
	w := pair()
	s := motion.State{
		At: points("1/2 3/2, -1/3 5/8"), Rot: []exact.Rot{exact.Turn(num("1/2")), exact.Turn(num("-7/3"))},
		Speed: nums("5/2 -1/2 1/100 9/16 -3/2 7"), Heat: nums("-5/4"),
	}
	// The half tangents become 0 and -2; 1/2 and -2 or -5/2; 1/2 and -9/4, -19/8.
	expectRounded(t, 0, w, s, "[(0 2)(0 1)][1 0 -3/5 -4/5][2 0 0 1 -2 7][-1]")
	expectRounded(t, 1, w, s, "[(1/2 3/2)(-1/2 1/2)][3/5 4/5 -21/29 -20/29][5/2 -1/2 0 1/2 -3/2 7][-1]")
	expectRounded(t, 2, w, s, "[(1/2 3/2)(-1/4 1/2)][3/5 4/5 -65/97 -72/97][5/2 -1/2 0 1/2 -3/2 7][-5/4]")
	expectRounded(t, 3, w, s, "[(1/2 3/2)(-3/8 5/8)][3/5 4/5 -297/425 -304/425][5/2 -1/2 0 1/2 -3/2 7][-5/4]")
	s.Rot = []exact.Rot{rot("-1 0"), rot("0 1")}
	expectRounded(t, 0, w, s, "[(0 2)(0 1)][-1 0 0 1][2 0 0 1 -2 7][-1]")
	s = motion.State{At: points("1/3 0, 0 0"), Rot: []exact.Rot{rot("1 0"), rot("1 0")}, Speed: make([]exact.Q, 6), Heat: make([]exact.Q, 1)}
	expectRounded(t, 62, w, s, "[(1537228672809129301/4611686018427387904 0)(0 0)][1 0 1 0][0 0 0 0 0 0][0]")
	expectRounded(t, 63, w, s, "[(3074457345618258603/9223372036854775808 0)(0 0)][1 0 1 0][0 0 0 0 0 0][0]")
	expectRounded(t, 64, w, s, "[(6148914691236517205/18446744073709551616 0)(0 0)][1 0 1 0][0 0 0 0 0 0][0]")
	for _, k := range []int{-1, 65, -64, 1 << 40} {
		got, e := motion.Round(w, s, k)
		expectError(t, "Round with a bad k", e, api.ErrRange)
		expect(t, "Round with an error", stateText(got), stateText(motion.State{}))
	}
}
