package control

import (
	"slices"

	"amble/api"
	"amble/exact"
	"amble/hull"
)

// isVoid reports whether no point satisfies the hard limits.
func (p Plan) isVoid() bool {
	_, e := hull.Least(p.Hard)
	return e == api.ErrVoid
}

// solve returns the choice for a budget that the hard limits, which are not
// void, leave something of. An error is at least 0, and there always is a point
// that keeps those of the tasks before: the answers are Optimal.
func (p Plan) solve(budget int) (c Choice, e api.Errno) {
	for task := 0; p.isTask(task) && p.cost(task) <= budget; task++ {
		proof, _ := hull.Maximize(p.next(c.Errors))
		c.Errors = append(c.Errors, proof.Value.Neg())
		c.Proofs = append(c.Proofs, proof)
	}
	if c.X, e = hull.Least(p.keeping(c.Errors)); e != api.OK {
		return Choice{}, e
	}
	return c, api.OK
}

// Choose returns the choice for a budget.
func Choose(p Plan, budget int) (Choice, api.Errno) {
	if e := CheckPlan(p); e != api.OK {
		return Choice{}, e
	}
	if budget < p.cost(-1) || p.isVoid() {
		return Choice{Crouch: true, X: slices.Clone(p.Crouch)}, api.OK
	}
	return p.solve(budget)
}

// crouches reports whether a choice is the crouch, and nothing else.
func (p Plan) crouches(c Choice) bool {
	isSame := func(a, b exact.Q) bool { return a.Cmp(b) == 0 }
	return slices.EqualFunc(c.X, p.Crouch, isSame) && len(c.Errors) == 0 && len(c.Proofs) == 0
}

// shows reports whether an answer proves the error of the task behind those
// that have errors.
func (p Plan) shows(errors []exact.Q, own exact.Q, proof hull.Answer) bool {
	if own.Sign() < 0 || proof.Kind != hull.Optimal || proof.Value.Cmp(own.Neg()) != 0 {
		return false
	}
	goal, set := p.next(errors)
	return hull.Prove(goal, set, proof)
}

// ProveChoice reports whether the plan is valid and the choice is right for it.
func ProveChoice(p Plan, c Choice) bool {
	if CheckPlan(p) != api.OK {
		return false
	}
	if c.Crouch {
		return p.crouches(c)
	}
	if len(c.Proofs) != len(c.Errors) || len(c.Errors) > len(p.Tasks) {
		return false
	}
	for i, proof := range c.Proofs {
		if !p.shows(c.Errors[:i], c.Errors[i], proof) {
			return false
		}
	}
	return hull.Has(p.keeping(c.Errors), c.X)
}
