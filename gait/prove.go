package gait

import (
	"slices"

	"amble/api"
	"amble/exact"
)

// proof is a plan for a valid problem, with the values of its marks.
type proof struct {
	country
	Plan
	values map[key]exact.Q
}

// isPlain reports whether a list of marks is one of possible states, increasing,
// with values that are not below 0.
func (p Problem) isPlain(marks []Mark) bool {
	isWrong := func(m Mark) bool { return !p.isPossible(m.State) || m.Value.Sign() < 0 }
	if slices.ContainsFunc(marks, isWrong) {
		return false
	}
	for i := range len(marks) - 1 {
		a, b := marks[i].State, marks[i+1].State
		if keyOf(a.Phase, a.Holds).compare(keyOf(b.Phase, b.Holds)) >= 0 {
			return false
		}
	}
	return true
}

// read returns the proof of a plan, if its marks are plain.
func (c country) read(a Plan) (proof, bool) {
	if !c.isPlain(a.Marks) {
		return proof{}, false
	}
	values := map[key]exact.Q{}
	for _, m := range a.Marks {
		values[keyOf(m.State.Phase, m.State.Holds)] = m.Value
	}
	return proof{c, a, values}, true
}

// isClosed reports whether the marks have the start, with the value 0, and all
// to which moves lead from them, with values that are not too great.
func (p proof) isClosed() bool {
	value, ok := p.values[keyOf(0, p.Start)]
	if !ok || value.Sign() != 0 {
		return false
	}
	for from, value := range p.values {
		for to, cost := range p.moves(from) {
			least, ok := p.values[to]
			if !ok || least.Cmp(value.Add(cost)) > 0 {
				return false
			}
		}
	}
	return true
}

// costOf returns the cost of the moves of a way; false: one of its states is not
// one to which a move leads from the one before. The first one is possible.
func (c country) costOf(way []State) (sum exact.Q, ok bool) {
	for i, s := range way[1:] {
		isThere := false
		if !c.isPossible(s) {
			return exact.Q{}, false
		}
		for to, cost := range c.moves(keyOf(way[i].Phase, way[i].Holds)) {
			if to == keyOf(s.Phase, s.Holds) {
				sum, isThere = sum.Add(cost), true
			}
		}
		if !isThere {
			return exact.Q{}, false
		}
	}
	return sum, true
}

// hasWay reports whether the way leads from the start to a goal, for Cost.
func (p proof) hasWay() bool {
	if len(p.Way) == 0 || p.Way[0].Phase != 0 || !slices.Equal(p.Way[0].Holds, p.Start) {
		return false
	}
	cost, ok := p.costOf(p.Way)
	last := p.Way[len(p.Way)-1]
	return ok && cost.Cmp(p.Cost) == 0 && p.isGoal(keyOf(last.Phase, last.Holds))
}

// isBest reports whether the way is one to a goal, and no mark of a goal has a
// lesser value; or, without a way, whether there is none of a goal.
func (p proof) isBest() bool {
	for k, value := range p.values {
		if p.isGoal(k) && (!p.Found || value.Cmp(p.Cost) < 0) {
			return false
		}
	}
	if p.Found {
		return p.hasWay()
	}
	return len(p.Way) == 0 && p.Cost.Sign() == 0
}

// Prove reports whether a problem is valid, and a plan is a proof for it.
func Prove(p Problem, a Plan) bool {
	c, e := enter(p)
	if e != api.OK {
		return false
	}
	shown, ok := c.read(a)
	return ok && shown.isClosed() && shown.isBest()
}
