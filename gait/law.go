package gait

import (
	"slices"

	"amble/api"
	"amble/balance"
	"amble/exact"
)

// reading is a number that a state gives: x times X, v times V and rest, in all.
type reading struct{ x, v, rest exact.Q }

// of returns the number that a state gives.
func (r reading) of(s balance.State) exact.Q {
	return exact.Sum(r.x.Mul(s.X), r.v.Mul(s.V), r.rest)
}

func (r reading) plus(o reading) reading {
	return reading{r.x.Add(o.x), r.v.Add(o.v), r.rest.Add(o.rest)}
}

func (r reading) times(k exact.Q) reading {
	return reading{r.x.Mul(k), r.v.Mul(k), r.rest.Mul(k)}
}

func (r reading) minus(o reading) reading { return r.plus(o.times(exact.Int(-1))) }

// readings are several of them: m times the state, and v.
type readings struct {
	m exact.Mat
	v []exact.Q
}

// gather returns the readings of several.
func gather(l ...reading) readings {
	var all readings
	for _, r := range l {
		all.m = append(all.m, []exact.Q{r.x, r.v})
		all.v = append(all.v, r.rest)
	}
	return all
}

// pressure returns the pressure of the step from a state after a push.
func (l Law) pressure() reading { return reading{l.KX, l.KV, l.Pressure} }

// length returns the length of the step from a state after a push.
func (l Law) length() reading { return reading{l.JX, l.JV, l.Step} }

// move returns what happens in the step that the law makes from a state.
func (l Law) move(s balance.State, push exact.Q) balance.Move {
	pushed := balance.State{X: s.X, V: s.V.Add(push)}
	return balance.Move{Push: push, Pressure: l.pressure().of(pushed), Step: l.length().of(pushed)}
}

// stepper is a valid pendulum whose steps a law makes, with the numbers of its
// swings.
type stepper struct {
	balance.Pendulum
	Law
	c, s exact.Q
}

// follow returns the stepper of a pendulum and a law, or the error of the
// pendulum.
func follow(p balance.Pendulum, l Law) (stepper, api.Errno) {
	ahead, e := balance.Swing(p, balance.State{X: exact.Int(1)}, exact.Q{})
	return stepper{p, l, ahead.X, ahead.V}, e
}

// swung returns X and V after the swing from a state after a push.
func (s stepper) swung() (x, v reading) {
	pressure := s.pressure()
	x = reading{x: s.c, v: s.s}.plus(pressure.times(exact.Int(1).Sub(s.c)))
	v = reading{x: s.s, v: s.c}.minus(pressure.times(s.s))
	return x, v
}

// next returns X and V of the state to which the return map leads.
func (s stepper) next() (x, v reading) {
	x, v = s.swung()
	return x.minus(s.length()), v
}

// Return returns the matrix and the numbers of the return map.
func Return(p balance.Pendulum, l Law) (exact.Mat, []exact.Q, api.Errno) {
	s, e := follow(p, l)
	if e != api.OK {
		return nil, nil, e
	}
	next := gather(s.next())
	return next.m, next.v, api.OK
}

// Fixed returns the state that the return map leads to itself.
func Fixed(p balance.Pendulum, l Law) (balance.State, api.Errno) {
	s, e := follow(p, l)
	if e != api.OK {
		return balance.State{}, e
	}
	x, v := s.next()
	one := exact.Int(1)
	change := gather(x.minus(reading{x: one}), v.minus(reading{v: one}))
	fixed, kernel, e := exact.Solve(change.m, []exact.Q{change.v[0].Neg(), change.v[1].Neg()})
	switch {
	case e != api.OK:
		return balance.State{}, e
	case len(kernel) > 0:
		return balance.State{}, api.ErrMany
	}
	return balance.State{X: fixed[0], V: fixed[1]}, api.OK
}

// Stable reports whether, without pushes, all states approach the fixed one.
func Stable(p balance.Pendulum, l Law) (bool, api.Errno) {
	m, _, e := Return(p, l)
	if e != api.OK {
		return false, e
	}
	one, trace := exact.Int(1), m[0][0].Add(m[1][1])
	det, _ := exact.Det(m)
	return trace.Abs().Cmp(one.Add(det)) < 0 && det.Cmp(one) < 0, api.OK
}

// Walk makes a step by the law for each push, and returns the states after the
// steps.
func Walk(p balance.Pendulum, l Law, s balance.State, pushes []exact.Q) ([]balance.State, api.Errno) {
	isTooGreat := func(push exact.Q) bool { return push.Abs().Cmp(p.Push) > 0 }
	switch e := balance.CheckPendulum(p); {
	case e != api.OK:
		return nil, e
	case len(pushes) > api.MaxWalk:
		return nil, api.ErrLimit
	case slices.ContainsFunc(pushes, isTooGreat):
		return nil, api.ErrRange
	}
	var states []balance.State
	for _, push := range pushes {
		next, e := balance.Next(p, s, l.move(s, push))
		if e != api.OK {
			return nil, e
		}
		s = next
		states = append(states, s)
	}
	return states, api.OK
}
