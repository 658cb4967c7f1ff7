package gait

import (
	"iter"

	"amble/api"
	"amble/exact"
)

// stride is what brings a leg to a foothold, and its cost without that of the
// phase.
type stride struct {
	to   int
	cost exact.Q
}

// country is a valid problem with the strides of its map that are known.
type country struct {
	Problem
	strides map[int][]stride
}

// enter returns the country of a problem, or the error of CheckProblem.
func enter(p Problem) (country, api.Errno) {
	return country{p, map[int][]stride{}}, CheckProblem(p)
}

// strideTo returns the stride from a foothold to another one, if there is one.
func (p Problem) strideTo(from, to int) (stride, bool) {
	w, hold := p.Walker, p.Map[to]
	way := hold.At.Sub(p.Map[from].At)
	length, rise := way.X.Abs(), exact.Max(way.Z, exact.Q{})
	if length.Cmp(w.Long) > 0 || way.Z.Cmp(w.Up) > 0 || way.Z.Neg().Cmp(w.Down) > 0 {
		return stride{}, false
	}
	return stride{to, exact.Sum(w.PerLength.Mul(length), w.PerRise.Mul(rise), hold.Cost)}, true
}

// stridesFrom returns the strides from a foothold. They are found only once, as
// many states have a leg there.
func (c country) stridesFrom(from int) []stride {
	l, ok := c.strides[from]
	if ok {
		return l
	}
	for to := range c.Map {
		if s, ok := c.strideTo(from, to); ok {
			l = append(l, s)
		}
	}
	c.strides[from] = l
	return l
}

// event returns the leg that the event behind a state places or lifts, and the
// strides that it can make then; of one that is lifted, that it stays.
func (c country) event(from key) (leg int, strides []stride) {
	leg, isPlaced := c.Word.event(from[0])
	hold := from[1+leg]
	if isPlaced {
		return leg, c.stridesFrom(hold)
	}
	return leg, []stride{{to: hold}}
}

// moves yields the states to which moves lead from a possible one, increasing,
// with the costs of the moves.
func (c country) moves(from key) iter.Seq2[key, exact.Q] {
	return func(yield func(key, exact.Q) bool) {
		to := from
		to[0] = c.Word.after(from[0])
		leg, strides := c.event(from)
		for _, s := range strides {
			to[1+leg] = s.to
			if c.canBe(to) && !yield(to, c.Walker.PerPhase.Add(s.cost)) {
				return
			}
		}
	}
}

// Moves returns all moves from a state, increasing by the states to which they
// lead.
func Moves(p Problem, s State) ([]Move, api.Errno) {
	c, e := enter(p)
	switch {
	case e != api.OK:
		return nil, e
	case !p.isPossible(s):
		return nil, api.ErrState
	}
	var moves []Move
	for to, cost := range c.moves(keyOf(s.Phase, s.Holds)) {
		moves = append(moves, Move{p.state(to), cost})
	}
	return moves, api.OK
}
