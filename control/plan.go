package control

import (
	"slices"

	"amble/api"
	"amble/exact"
	"amble/hull"
)

// maxAims is how many rows a task may have.
const maxAims = 8

// isFor reports whether the task is one for points of n numbers.
func (t Task) isFor(n int) bool {
	if len(t.A) < 1 || len(t.A) > maxAims || len(t.B) != len(t.A) {
		return false
	}
	return !slices.ContainsFunc(t.A, func(row []exact.Q) bool { return len(row) != n })
}

// CheckPlan returns ErrArg if the plan is not valid.
func CheckPlan(p Plan) api.Errno {
	n := p.Hard.N
	if hull.Check(p.Hard) != api.OK || n < 1 || n > api.MaxWish || len(p.Hard.Rows) > api.MaxHard {
		return api.ErrArg
	}
	isWrong := func(t Task) bool { return !t.isFor(n) }
	if len(p.Tasks) > api.MaxTasks || slices.ContainsFunc(p.Tasks, isWrong) || len(p.Crouch) != n {
		return api.ErrArg
	}
	return api.OK
}

// isTask reports whether the plan has this task.
func (p Plan) isTask(task int) bool { return task >= 0 && task < len(p.Tasks) }

// cost returns the cost of the hard limits and of the tasks up to this one.
func (p Plan) cost(task int) int {
	rows, n := len(p.Hard.Rows), p.Hard.N
	sum := rows * n
	for _, t := range p.Tasks[:task+1] {
		rows += 2 * len(t.A)
		sum += rows * (n + 1)
	}
	return sum
}

// Cost returns the sum of the costs of the hard limits and of the tasks up to
// this one; of the hard limits alone for the task -1.
func Cost(p Plan, task int) (int, api.Errno) {
	if e := CheckPlan(p); e != api.OK {
		return 0, e
	}
	if task != -1 && !p.isTask(task) {
		return 0, api.ErrRange
	}
	return p.cost(task), api.OK
}

// errorAt returns the greatest of the absolute values of A x - B.
func (t Task) errorAt(x []exact.Q) exact.Q {
	off, _ := exact.Apply(t.A, x)
	for i, b := range t.B {
		off[i] = off[i].Sub(b).Abs()
	}
	return exact.Max(off...)
}

// ErrorOf returns the error of a task at x.
func ErrorOf(p Plan, task int, x []exact.Q) (exact.Q, api.Errno) {
	switch e := CheckPlan(p); {
	case e != api.OK:
		return exact.Q{}, e
	case !p.isTask(task):
		return exact.Q{}, api.ErrRange
	case len(x) != p.Hard.N:
		return exact.Q{}, api.ErrArg
	}
	return p.Tasks[task].errorAt(x), api.OK
}

// negated returns the numbers with their signs changed.
func negated(l []exact.Q) []exact.Q {
	n := make([]exact.Q, len(l))
	for i, q := range l {
		n[i] = q.Neg()
	}
	return n
}

// rows returns two rows for each row of the task: A x differs from B by at most
// most. A tail is put behind the numbers of each of them.
func (t Task) rows(most exact.Q, tail ...exact.Q) []hull.Row {
	var rows []hull.Row
	for i, a := range t.A {
		b := t.B[i]
		rows = append(rows,
			hull.Row{A: slices.Concat(a, tail), B: b.Add(most)},
			hull.Row{A: slices.Concat(negated(a), tail), B: b.Neg().Add(most)})
	}
	return rows
}

// keeping returns the set of the points that satisfy the hard limits, and for
// which the errors of the first tasks are at most these. A tail is put behind
// the numbers of each row.
func (p Plan) keeping(errors []exact.Q, tail ...exact.Q) hull.Poly {
	set := hull.Poly{N: p.Hard.N + len(tail)}
	for _, r := range p.Hard.Rows {
		set.Rows = append(set.Rows, hull.Row{A: slices.Concat(r.A, tail), B: r.B})
	}
	for i, most := range errors {
		set.Rows = append(set.Rows, p.Tasks[i].rows(most, tail...)...)
	}
	return set
}

// next returns the rows of the task behind those that have errors, and what is
// to be maximised over them: the opposite of its own error, the last number.
func (p Plan) next(errors []exact.Q) (goal []exact.Q, set hull.Poly) {
	less := exact.Int(-1)
	set = p.keeping(errors, exact.Q{})
	set.Rows = append(set.Rows, p.Tasks[len(errors)].rows(exact.Q{}, less)...)
	goal = make([]exact.Q, set.N)
	goal[p.Hard.N] = less
	return goal, set
}
