package balance

import (
	"amble/api"
	"amble/exact"
)

// CheckPendulum returns ErrArg if the pendulum is not valid.
func CheckPendulum(p Pendulum) api.Errno {
	grows := p.Grow.Sign() > 0 && p.Grow.Cmp(exact.Int(1)) < 0
	reaches := areRising(p.Near, p.Heel, p.Toe, p.Far) && areRising(p.Short, p.Long)
	if !grows || !reaches || p.Push.Sign() < 0 {
		return api.ErrArg
	}
	return api.OK
}

// walker is a valid pendulum with the numbers of its swings.
type walker struct {
	Pendulum
	c, s exact.Q
}

// enter returns the walker of a pendulum, or the error of CheckPendulum.
func enter(p Pendulum) (walker, api.Errno) {
	if e := CheckPendulum(p); e != api.OK {
		return walker{}, e
	}
	one, square := exact.Int(1), p.Grow.Mul(p.Grow)
	under := one.Sub(square)
	return walker{p, over(one.Add(square), under), over(p.Grow.Add(p.Grow), under)}, api.OK
}

// isInBounds reports whether the centre of mass is where it must be.
func (w walker) isInBounds(s State) bool { return areRising(w.Near, s.X, w.Far) }

// canPush reports whether a push is in its interval.
func (w walker) canPush(push exact.Q) bool { return push.Abs().Cmp(w.Push) <= 0 }

// canMove reports whether all of a move is in its intervals.
func (w walker) canMove(m Move) bool {
	return w.canPush(m.Push) && areRising(w.Heel, m.Pressure, w.Toe) && areRising(w.Short, m.Step, w.Long)
}

// pushed returns the state after a push.
func (s State) pushed(push exact.Q) State { return State{s.X, s.V.Add(push)} }

// swung returns the state after a swing.
func (w walker) swung(s State, pressure exact.Q) State {
	lean := s.X.Sub(pressure)
	return State{
		X: exact.Sum(pressure, w.c.Mul(lean), w.s.Mul(s.V)),
		V: exact.Sum(w.s.Mul(lean), w.c.Mul(s.V)),
	}
}

// placed returns the state after the foot is put forward.
func (s State) placed(length exact.Q) State { return State{s.X.Sub(length), s.V} }

// Swing returns the state after a swing with any pressure.
func Swing(p Pendulum, s State, pressure exact.Q) (State, api.Errno) {
	w, e := enter(p)
	if e != api.OK {
		return State{}, e
	}
	return w.swung(s, pressure), api.OK
}

// next returns the state after a step, or the error of Next.
func (w walker) next(s State, m Move) (State, api.Errno) {
	if !w.canMove(m) {
		return State{}, api.ErrRange
	}
	swung := w.swung(s.pushed(m.Push), m.Pressure)
	placed := swung.placed(m.Step)
	if !w.isInBounds(s) || !w.isInBounds(swung) || !w.isInBounds(placed) {
		return State{}, api.ErrState
	}
	return placed, api.OK
}

// Next returns the state after a step.
func Next(p Pendulum, s State, m Move) (State, api.Errno) {
	w, e := enter(p)
	if e != api.OK {
		return State{}, e
	}
	return w.next(s, m)
}
