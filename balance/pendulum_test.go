package balance_test

import (
	"testing"

	"amble/api"
	"amble/balance"
	"amble/exact"
)

// wrongPendulums are pendulums that are not valid.
func wrongPendulums() []balance.Pendulum {
	var l []balance.Pendulum
	for _, s := range []string{
		"0 -1 1 -2 2 0 1 0",           // Grow
		"-1/3 -1 1 -2 2 0 1 0",        // Grow
		"1 -1 1 -2 2 0 1 0",           // Grow
		"2 -1 1 -2 2 0 1 0",           // Grow
		"1/3 -1 1 -99/100 2 0 1 0",    // Near and Heel
		"1/3 1 99/100 -2 2 0 1 0",     // Heel and Toe
		"1/3 -1 1 -2 99/100 0 1 0",    // Toe and Far
		"1/3 -1 1 2 -2 0 1 0",         // Near and Far
		"1/3 -1 1 -2 2 1 99/100 0",    // Short and Long
		"1/3 -1 1 -2 2 0 1 -1/1000",   // Push
		"1/3 0 0 0 0 0 0 -1",          // Push
		"1/3 -1 -1/2 -2 -3/4 -1 -1 0", // Toe and Far
	} {
		l = append(l, pendulum(s))
	}
	return append(l, balance.Pendulum{})
}

// P7.5: which pendulums are valid.
func TestCheckPendulum(t *testing.T) {
	for _, s := range []string{
		"1/3 -1/10 1/10 -1/2 1/2 0 1/2 0", "1/1000000 -1 1 -2 2 0 1 0", "999999/1000000 -1 1 -2 2 0 1 5",
		"1/2 0 0 0 0 0 0 0", "1/2 -1 1 -1 1 1 1 1000", "1/2 5 6 4 7 -3 -2 0", "1/2 0 0 -1 1 -1 1 1/1000",
	} {
		expectError(t, "CheckPendulum of "+s, balance.CheckPendulum(pendulum(s)), api.OK)
	}
	for _, p := range wrongPendulums() {
		expectError(t, "CheckPendulum of "+pendulumText(p), balance.CheckPendulum(p), api.ErrArg)
	}
}

// P7.5: Swing, also with pressures that the foot does not allow, and states out
// of bounds.
func TestSwing(t *testing.T) {
	for _, c := range []struct{ state, pressure, want string }{
		{"0 2/5", "0", "[3/10 1/2]"},
		{"0 0", "0", "[0 0]"},
		{"1 0", "0", "[5/4 3/4]"},
		{"1 -1", "0", "[1/2 -1/2]"},
		{"0 0", "1", "[-1/4 -3/4]"},
		{"7 2", "7", "[17/2 5/2]"},
		{"-100 3", "40", "[-531/4 -405/4]"},
	} {
		s, e := balance.Swing(third("0"), state(c.state), num(c.pressure))
		expectOK(t, "Swing of "+c.state+" with "+c.pressure, stateText(s), e, c.want)
	}
	for _, p := range wrongPendulums() {
		s, e := balance.Swing(p, state("1 2"), num("3"))
		expectError(t, "Swing of "+pendulumText(p), e, api.ErrArg)
		expect(t, "Swing of "+pendulumText(p), stateText(s), "[0 0]")
	}
}

// swung is the state after a swing: of the two parts of a state, seen from the
// pressure, X + V grows by (1 + Grow)/(1 - Grow), and X - V decays by it.
func swung(p balance.Pendulum, s balance.State, pressure exact.Q) balance.State {
	one, two := num("1"), num("2")
	growth := over(one.Add(p.Grow), one.Sub(p.Grow))
	x := s.X.Sub(pressure)
	grows, decays := x.Add(s.V).Mul(growth), over(x.Sub(s.V), growth)
	return balance.State{X: over(grows.Add(decays), two).Add(pressure), V: over(grows.Sub(decays), two)}
}

// P7.5: for any pendulum, Swing makes one part grow and the other one decay.
func TestAnySwing(t *testing.T) {
	s := source(720)
	for range 300 {
		p := s.pendulum()
		from := balance.State{X: s.number(), V: s.number()}
		pressure := s.number()
		got, e := balance.Swing(p, from, pressure)
		expectOK(t, "Swing of "+pendulumText(p)+stateText(from), stateText(got), e, stateText(swung(p, from, pressure)))
	}
}

// P7.5: Next, at the ends of its intervals and bounds, and beyond them.
func TestNext(t *testing.T) {
	p := third("1/20")
	for _, c := range []struct {
		name, state, move, want string
		e                       api.Errno
	}{
		{"an ordinary step", "0 7/20", "1/20 0 1/4", "[1/20 1/2]", api.OK},
		{"no step", "0 0", "0 0 0", "[0 0]", api.OK},
		{"the greatest push", "0 0", "1/20 0 0", "[3/80 1/16]", api.OK},
		{"the greatest push back", "0 0", "-1/20 0 0", "[-3/80 -1/16]", api.OK},
		{"a greater push", "0 0", "51/1000 0 0", "[0 0]", api.ErrRange},
		{"a greater push back", "0 0", "-51/1000 0 0", "[0 0]", api.ErrRange},
		{"a pressure at the heel", "0 0", "0 -1/10 0", "[1/40 3/40]", api.OK},
		{"a pressure behind it", "0 0", "0 -101/1000 0", "[0 0]", api.ErrRange},
		{"a pressure at the toe", "0 0", "0 1/10 0", "[-1/40 -3/40]", api.OK},
		{"a pressure before it", "0 0", "0 101/1000 0", "[0 0]", api.ErrRange},
		{"the longest step", "0 0", "0 0 1/2", "[-1/2 0]", api.OK},
		{"a longer step", "0 0", "0 0 501/1000", "[0 0]", api.ErrRange},
		{"a step back", "0 0", "0 0 -1/1000", "[0 0]", api.ErrRange},
		{"a start at the end of the bounds", "1/2 -1/2", "0 0 0", "[1/4 -1/4]", api.OK},
		{"a start beyond it", "501/1000 -1/2", "0 0 0", "[0 0]", api.ErrState},
		{"a start at the other end", "-1/2 1/2", "0 0 0", "[-1/4 1/4]", api.OK},
		{"a start beyond that", "-501/1000 1/2", "0 0 0", "[0 0]", api.ErrState},
		{"a swing to the end", "0 2/3", "0 0 0", "[1/2 5/6]", api.OK},
		{"a swing beyond it", "0 667/1000", "0 0 1/2", "[0 0]", api.ErrState},
		{"a swing to the other end", "0 -2/3", "0 0 0", "[-1/2 -5/6]", api.OK},
		{"a swing beyond that", "0 -667/1000", "0 0 0", "[0 0]", api.ErrState},
		{"a length too much", "0 -1/3", "0 0 3/10", "[0 0]", api.ErrState},
		{"a length just not too much", "0 -1/3", "0 0 1/4", "[-1/2 -5/12]", api.OK},
		{"a push that is too much for the swing", "0 2/3", "1/20 0 1/2", "[0 0]", api.ErrState},
	} {
		s, e := balance.Next(p, state(c.state), move(c.move))
		expectError(t, "Next, "+c.name, e, c.e)
		expect(t, "Next, "+c.name, stateText(s), c.want)
	}
	s, e := balance.Next(pendulum("1/3 -1/10 1/10 -1/2 1/2 -1 0 0"), state("0 2/3"), move("0 0 -1/10"))
	expectError(t, "Next, with a length back that is too much", e, api.ErrState)
	expect(t, "Next, with a length back that is too much", stateText(s), "[0 0]")
}

// The errors of Next, in order.
func TestNextErrors(t *testing.T) {
	fallen := state("1 1")
	for _, c := range []struct {
		p    balance.Pendulum
		s    balance.State
		m    string
		want api.Errno
	}{
		{pendulum("1/3 -1/10 1/10 -1/2 1/2 1 1/2 0"), fallen, "9 9 9", api.ErrArg},
		{balance.Pendulum{}, fallen, "9 9 9", api.ErrArg},
		{third("0"), fallen, "9 9 9", api.ErrRange},
		{third("0"), fallen, "0 0 9", api.ErrRange},
		{third("0"), fallen, "0 9 0", api.ErrRange},
		{third("0"), fallen, "1/1000 0 0", api.ErrRange},
		{third("0"), fallen, "0 0 0", api.ErrState},
	} {
		s, e := balance.Next(c.p, c.s, move(c.m))
		expectError(t, "Next of "+pendulumText(c.p)+" with "+c.m, e, c.want)
		expect(t, "Next with an error", stateText(s), "[0 0]")
	}
}

// isIn reports whether a number is from low to high.
func isIn(low, q, high exact.Q) bool { return low.Cmp(q) <= 0 && q.Cmp(high) <= 0 }

// next is what Next gives.
func next(p balance.Pendulum, s balance.State, m balance.Move) (balance.State, api.Errno) {
	if !isIn(p.Push.Neg(), m.Push, p.Push) || !isIn(p.Heel, m.Pressure, p.Toe) || !isIn(p.Short, m.Step, p.Long) {
		return balance.State{}, api.ErrRange
	}
	behind := swung(p, pushed(s, m.Push), m.Pressure)
	end := behind
	end.X = end.X.Sub(m.Step)
	if !isIn(p.Near, s.X, p.Far) || !isIn(p.Near, behind.X, p.Far) || !isIn(p.Near, end.X, p.Far) {
		return balance.State{}, api.ErrState
	}
	return end, api.OK
}

// P7.5: Next, for any pendulum.
func TestAnyNext(t *testing.T) {
	s := source(721)
	seen := map[api.Errno]int{}
	for range 600 {
		p := s.pendulum()
		from := s.nearby(p)
		m := balance.Move{Push: s.between(p.Push.Neg(), p.Push), Pressure: s.between(p.Heel, p.Toe), Step: s.between(p.Short, p.Long)}
		switch s.below(10) {
		case 0:
			m.Push = m.Push.Add(s.number())
		case 1:
			m.Pressure = m.Pressure.Add(s.number())
		case 2:
			m.Step = m.Step.Add(s.number())
		}
		want, wantError := next(p, from, m)
		got, e := balance.Next(p, from, m)
		expectError(t, "Next of "+pendulumText(p)+stateText(from)+moveText(m), e, wantError)
		expect(t, "Next of "+pendulumText(p)+stateText(from)+moveText(m), stateText(got), stateText(want))
		seen[e]++
	}
	for _, e := range []api.Errno{api.OK, api.ErrRange, api.ErrState} {
		if seen[e] < 60 {
			t.Error("only", seen[e], "steps with the error", int(e))
		}
	}
}
