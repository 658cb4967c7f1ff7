package balance

import (
	"slices"

	"amble/api"
	"amble/exact"
	"amble/hull"
)

// choices returns the pairs of a pressure and a length that are a choice for a
// state in the ready set of k.
func (b book) choices(k int, s State) hull.Poly { return b.back(b.capture(k - 1))(s) }

// choose returns the least choice; ErrVoid: there is none.
func (b book) choose(k int, s State) (pressure, step exact.Q, e api.Errno) {
	pair, e := hull.Least(b.choices(k, s))
	if e != api.OK {
		return pressure, step, e
	}
	return pair[0], pair[1], api.OK
}

// Choices returns the polyhedron of the pairs of a pressure and a length that
// are a choice for a state in the ready set of k.
func Choices(p Pendulum, k int, s State) (hull.Poly, api.Errno) {
	b, e := open(p, k, 1)
	if e != api.OK {
		return hull.Poly{}, e
	}
	return b.choices(k, s), api.OK
}

// Choose returns the least choice for a state in the ready set of k.
func Choose(p Pendulum, k int, s State) (pressure, step exact.Q, e api.Errno) {
	b, e := open(p, k, 1)
	if e != api.OK {
		return pressure, step, e
	}
	return b.choose(k, s)
}

// Refuse returns weights that show that there is no choice for a state in the
// ready set of k.
func Refuse(p Pendulum, k int, s State) ([]exact.Q, api.Errno) {
	b, e := open(p, k, 1)
	if e != api.OK {
		return nil, e
	}
	return refute(b.choices(k, s))
}

// Pushes returns the least and the greatest push that leads from a state into
// the ready set of k.
func Pushes(p Pendulum, k int, s State) (low, high exact.Q, e api.Errno) {
	b, e := open(p, k, 1)
	if e != api.OK {
		return low, high, e
	}
	push := exact.Mat{make([]exact.Q, 1), unit(1, 0)}
	low, high, _, _, e = hull.Bounds(unit(1, 0), where(b.ready(k), push, s.X, s.V))
	return low, high, e
}

// stop makes as many steps as there are pushes, from a state of their capture
// set: from there on there always is a choice, and its step is good.
func (b book) stop(s State, pushes []exact.Q) (moves []Move, last State) {
	for i, push := range pushes {
		m := Move{Push: push}
		m.Pressure, m.Step, _ = b.choose(len(pushes)-i, s.pushed(push))
		s, _ = b.next(s, m)
		moves = append(moves, m)
	}
	return moves, s
}

// Stop makes k steps, with these pushes, that lead to rest.
func Stop(p Pendulum, k int, s State, pushes []exact.Q) ([]Move, State, api.Errno) {
	b, e := open(p, k, 0)
	cannot := func(push exact.Q) bool { return !b.canPush(push) }
	switch {
	case e != api.OK:
		return nil, State{}, e
	case len(pushes) != k:
		return nil, State{}, api.ErrArg
	case slices.ContainsFunc(pushes, cannot):
		return nil, State{}, api.ErrRange
	case !hull.Has(b.capture(k), list(s.X, s.V)):
		return nil, State{}, api.ErrVoid
	}
	moves, last := b.stop(s, pushes)
	return moves, last, api.OK
}
