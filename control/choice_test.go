package control_test

import (
	"math"
	"slices"
	"strconv"
	"testing"

	"amble/api"
	"amble/control"
	"amble/exact"
	"amble/hull"
)

// rowsOf returns the rows of a task as the chapter lists them, with the errors
// of the tasks before it.
func rowsOf(p control.Plan, task int, errors []exact.Q) hull.Poly {
	n := p.Hard.N
	set := hull.Poly{N: n + 1}
	add := func(sign exact.Q, a []exact.Q, e, b exact.Q) {
		row := hull.Row{B: b}
		for _, q := range a {
			row.A = append(row.A, q.Mul(sign))
		}
		row.A = append(row.A, e)
		set.Rows = append(set.Rows, row)
	}
	one, minus := num("1"), num("-1")
	for _, r := range p.Hard.Rows {
		add(one, r.A, exact.Q{}, r.B)
	}
	for j := range task {
		for i, a := range p.Tasks[j].A {
			b := p.Tasks[j].B[i]
			add(one, a, exact.Q{}, b.Add(errors[j]))
			add(minus, a, exact.Q{}, errors[j].Sub(b))
		}
	}
	for i, a := range p.Tasks[task].A {
		b := p.Tasks[task].B[i]
		add(one, a, minus, b)
		add(minus, a, minus, b.Neg())
	}
	return set
}

// goalOf returns what is maximised over the rows of a task.
func goalOf(p control.Plan) []exact.Q {
	return append(make([]exact.Q, p.Hard.N), num("-1"))
}

// corners returns the points of a polyhedron at which as many rows as it has
// dimensions meet in just one point.
func corners(p hull.Poly) [][]exact.Q {
	var all [][]exact.Q
	var pick func(from int, m exact.Mat, b []exact.Q)
	pick = func(from int, m exact.Mat, b []exact.Q) {
		if len(m) == p.N {
			x, kernel, e := exact.Solve(m, b)
			if e == api.OK && len(kernel) == 0 && hull.Has(p, x) {
				all = append(all, x)
			}
			return
		}
		for i := from; i < len(p.Rows); i++ {
			pick(i+1, append(m[:len(m):len(m)], p.Rows[i].A), append(b[:len(b):len(b)], p.Rows[i].B))
		}
	}
	pick(0, nil, nil)
	return all
}

// isBefore reports whether a list of numbers is less than another one.
func isBefore(a, b []exact.Q) bool { return slices.CompareFunc(a, b, exact.Q.Cmp) < 0 }

// kept returns the set of x for which the errors of tasks are at most these.
func kept(p control.Plan, errors []exact.Q) hull.Poly {
	set := hull.Poly{N: p.Hard.N, Rows: slices.Clone(p.Hard.Rows)}
	for j, most := range errors {
		for i, a := range p.Tasks[j].A {
			b, opposite := p.Tasks[j].B[i], make([]exact.Q, len(a))
			for k, q := range a {
				opposite[k] = q.Neg()
			}
			set.Rows = append(set.Rows, hull.Row{A: a, B: b.Add(most)}, hull.Row{A: opposite, B: most.Sub(b)})
		}
	}
	return set
}

// chosen returns the choice for a plan with bounded limits, without proofs, by
// looking at all corners.
func chosen(p control.Plan, budget int) control.Choice {
	rows, n := len(p.Hard.Rows), p.Hard.N
	left := budget - rows*n
	if left < 0 || len(corners(p.Hard)) == 0 {
		return control.Choice{Crouch: true, X: p.Crouch}
	}
	var c control.Choice
	for k, t := range p.Tasks {
		rows += 2 * len(t.A)
		if left -= rows * (n + 1); left < 0 {
			break
		}
		least := slices.MinFunc(corners(rowsOf(p, k, c.Errors)), func(a, b []exact.Q) int { return a[n].Cmp(b[n]) })
		c.Errors = append(c.Errors, least[n])
	}
	c.X = slices.MinFunc(corners(kept(p, c.Errors)), func(a, b []exact.Q) int { return slices.CompareFunc(a, b, exact.Q.Cmp) })
	return c
}

// P9.2: choices for the plan of the example, and for each budget near a cost.
func TestChoose(t *testing.T) {
	p := example()
	for _, c := range []struct {
		budget int
		want   string
	}{
		{math.MinInt, "true [9][]0"}, {-1, "true [9][]0"}, {0, "true [9][]0"}, {1, "true [9][]0"},
		{2, "false [0][]0"}, {5, "false [0][]0"}, {9, "false [0][]0"},
		{10, "false [4][2]1"}, {21, "false [4][2]1"},
		{22, "false [4][2 3]2"}, {23, "false [4][2 3]2"}, {math.MaxInt, "false [4][2 3]2"},
	} {
		got, e := control.Choose(p, c.budget)
		expectOK(t, "Choose with "+strconv.Itoa(c.budget), resultText(got), e, c.want)
		expectBool(t, "ProveChoice of it", control.ProveChoice(p, got), true)
	}
}

// P9.2: choices of other plans, with a great budget unless it is said.
func TestOtherChoices(t *testing.T) {
	square := "1 0 4, -1 0 0, 0 1 4, 0 -1 0"
	for _, c := range []struct {
		name   string
		p      control.Plan
		budget int
		want   string
		e      api.Errno
	}{
		{"no tasks", plan(square, "1 2"), 8, "false [0 0][]0", 0},
		{"no tasks, and no budget", plan(square, "1 2"), 7, "true [1 2][]0", 0},
		{"no rows, and no budget", plan("", "1 2"), -1, "true [1 2][]0", 0},
		{"no rows, and the budget that they cost", plan("", "1 2"), 0, "", api.ErrOpen},
		{"a void Hard", plan("1 0 -1, -1 0 0", "1 2", "1 0 2"), 999, "true [1 2][]0", 0},
		{"a void Hard, at its cost", plan("1 0 -1, -1 0 0", "1 2", "1 0 2"), 4, "true [1 2][]0", 0},
		{"a void Hard of one row", plan("0 0 -1", "1 2"), 999, "true [1 2][]0", 0},
		{"what is wanted is possible", plan(square, "1 2", "1 1 3", "1 -1 0"), 999, "false [3/2 3/2][0 0]2", 0},
		{"the second task has a choice", plan(square, "1 2", "1 1 3", "1 0 9"), 999, "false [3 0][0 6]2", 0},
		{"the order counts", plan(square, "1 2", "1 0 9", "1 1 3"), 999, "false [4 0][5 1]2", 0},
		{"the second task is too dear", plan(square, "1 2", "1 0 9", "1 1 3"), 8 + 18 + 23, "false [4 0][5]1", 0},
		{"a cheap task behind one that is too dear", plan(square, "1 2", "1 0 1, 0 1 1, 1 1 1", "1 0 3"), 8 + 29, "false [0 0][]0", 0},
		{"rows that contradict each other", plan(square, "1 2", "1 0 1, 1 0 3", "0 1 2"), 999, "false [2 2][1 0]2", 0},
		{"a row of zeros", plan(square, "1 2", "0 0 -3, 1 0 2", "1 0 2"), 999, "false [2 0][3 0]2", 0},
		{"an error that the row of zeros has leaves room", plan(square, "1 2", "0 0 -3, 1 0 4"), 999, "false [1 0][3]1", 0},
		{"a task without anything", plan(square, "1 2", "0 0 0"), 999, "false [0 0][0]1", 0},
		{"equal errors", plan(square, "1 2", "1 0 6, 0 1 6", "1 0 6", "0 1 2"), 999, "false [4 4][2 2 2]3", 0},
		{"equal errors of opposite tasks", plan("1 4, -1 4", "7", "1 6", "1 -6"), 999, "false [4][2 10]2", 0},
		{"the same task twice", plan("1 4, -1 4", "7", "1 6", "1 6"), 999, "false [4][2 2]2", 0},
		{"a task scaled", plan("1 4, -1 4", "7", "-3 -18"), 999, "false [4][6]1", 0},
		{"no limits, with tasks that say where", plan("", "1 2", "1 0 2, 0 1 3"), 999, "false [2 3][0]1", 0},
		{"no limits, with tasks that leave a line", plan("", "1 2", "1 0 2"), 999, "", api.ErrOpen},
		{"a line with a least point", plan("-1 0 0", "1 2", "1 1 3", "1 -1 0"), 14, "", api.ErrOpen},
		{"that line with one task", plan("-1 0 0", "1 2", "1 1 3", "1 -1 0"), 2 + 9, "false [0 3][0]1", 0},
		{"a half plane below", plan("1 0 0", "1 2"), 2, "", api.ErrOpen},
		{"a half plane above", plan("-1 0 0", "1 2"), 2, "", api.ErrOpen},
		{"a corner above", plan("-1 0 0, 0 -1 -2", "1 2"), 4, "false [0 2][]0", 0},
		{"a least point on an unbounded set", plan("-1 0 0, -1 -1 0", "1 2"), 4, "false [0 0][]0", 0},
	} {
		if c.name == "a line with a least point" {
			c.budget = 999
			c.want, c.e = "false [3/2 3/2][0 0]2", 0
		}
		got, e := control.Choose(c.p, c.budget)
		expectError(t, "Choose: "+c.name, e, c.e)
		if e != api.OK {
			expect(t, "Choose: "+c.name, choiceText(got), "false [][]0")
			continue
		}
		expect(t, "Choose: "+c.name, resultText(got), c.want)
		expectBool(t, "ProveChoice: "+c.name, control.ProveChoice(c.p, got), true)
	}
}

// P9.2: what there may be at most: each task wants something of one number.
func TestWidest(t *testing.T) {
	p := widest()
	last := ""
	for k := range api.MaxTasks + 1 {
		budget, _ := control.Cost(p, k-1)
		c, e := control.Choose(p, budget)
		expectError(t, "Choose of the widest plan", e, api.OK)
		expect(t, "the number of errors", strconv.Itoa(len(c.Errors)), strconv.Itoa(k))
		expectBool(t, "ProveChoice of the widest plan", control.ProveChoice(p, c), true)
		if k > 0 {
			less, _ := control.Choose(p, budget-1)
			expect(t, "Choose with one less", choiceText(less), last)
		}
		last = choiceText(c)
	}
}

// budget returns one that looks random; often a cost of the plan, or one less.
func (s *source) budget(p control.Plan) int {
	cost, _ := control.Cost(p, s.below(len(p.Tasks)+1)-1)
	return cost - []int{0, 0, 1, s.below(30)}[s.below(4)]
}

// P9.2: choices for plans that look random, compared with what all corners say.
// Proofs are compared with the rows of the chapter.
func TestRandomChoose(t *testing.T) {
	s := source(920)
	solved, crouched := 0, 0
	for range 400 {
		p := s.plan(1 + s.below(2))
		if len(p.Tasks) < 2 && s.chance(3) {
			p = s.plan(3)
		}
		budget := s.budget(p)
		got, e := control.Choose(p, budget)
		want := chosen(p, budget)
		want.Proofs = make([]hull.Answer, len(want.Errors))
		expectOK(t, "Choose of "+planText(p), resultText(got), e, resultText(want))
		for k, a := range got.Proofs {
			solved++
			if a.Kind != hull.Optimal || a.Value.Cmp(want.Errors[k].Neg()) != 0 || !hull.Prove(goalOf(p), rowsOf(p, k, want.Errors), a) {
				t.Error("no proof of the error", k, "of", planText(p))
			}
		}
		if got.Crouch {
			crouched++
		}
		expectBool(t, "ProveChoice of "+planText(p), control.ProveChoice(p, got), true)
	}
	if solved < 200 || crouched < 20 {
		t.Error("only", solved, "tasks and", crouched, "crouches")
	}
}

// P9.2: a choice that is altered in one place. The plan: x from 0 to 4, tasks
// x = 6 and x = 1; the choice is x = 4 with the errors 2 and 3.
func TestProveChoice(t *testing.T) {
	for _, c := range []struct {
		name  string
		alter func(p *control.Plan, c *control.Choice)
		want  bool
	}{
		{"as it is", func(p *control.Plan, c *control.Choice) {}, true},
		{"a wrong plan", func(p *control.Plan, c *control.Choice) { p.Crouch = nil }, false},
		{"another crouch", func(p *control.Plan, c *control.Choice) { p.Crouch = nums("8") }, true},
		{"a plan with other limits", func(p *control.Plan, c *control.Choice) { p.Hard.Rows[0].B = num("5") }, false},
		{"a plan with another task", func(p *control.Plan, c *control.Choice) { p.Tasks[1].B = nums("2") }, false},
		{"a plan with one more task", func(p *control.Plan, c *control.Choice) { p.Tasks = append(p.Tasks, task("1 0")) }, true},
		{"a plan without the second task", func(p *control.Plan, c *control.Choice) { p.Tasks = p.Tasks[:1] }, false},

		{"called a crouch", func(p *control.Plan, c *control.Choice) { c.Crouch = true }, false},
		{"the crouch", func(p *control.Plan, c *control.Choice) { *c = control.Choice{Crouch: true, X: nums("9")} }, true},
		{"the crouch by a sum", func(p *control.Plan, c *control.Choice) {
			*c = control.Choice{Crouch: true, X: []exact.Q{num("1/2").Add(num("17/2"))}}
		}, true},
		{"another crouch than the plan's", func(p *control.Plan, c *control.Choice) { *c = control.Choice{Crouch: true, X: nums("8")} }, false},
		{"a long crouch", func(p *control.Plan, c *control.Choice) { *c = control.Choice{Crouch: true, X: nums("9 0")} }, false},
		{"no crouch", func(p *control.Plan, c *control.Choice) { *c = control.Choice{Crouch: true} }, false},
		{"the crouch, not called so", func(p *control.Plan, c *control.Choice) { *c = control.Choice{X: nums("9")} }, false},
		{"a crouch with an error", func(p *control.Plan, c *control.Choice) {
			*c = control.Choice{Crouch: true, X: nums("9"), Errors: nums("0")}
		}, false},
		{"a crouch with a proof", func(p *control.Plan, c *control.Choice) {
			*c = control.Choice{Crouch: true, X: nums("9"), Proofs: c.Proofs[:1]}
		}, false},
		{"a crouch with errors and proofs", func(p *control.Plan, c *control.Choice) { c.Crouch, c.X = true, nums("9") }, false},

		{"no errors and proofs", func(p *control.Plan, c *control.Choice) { c.Errors, c.Proofs = nil, nil }, true},
		{"no errors", func(p *control.Plan, c *control.Choice) { c.Errors = nil }, false},
		{"no proofs", func(p *control.Plan, c *control.Choice) { c.Proofs = nil }, false},
		{"the first error alone", func(p *control.Plan, c *control.Choice) { c.Errors, c.Proofs = c.Errors[:1], c.Proofs[:1] }, true},
		{"a proof less", func(p *control.Plan, c *control.Choice) { c.Proofs = c.Proofs[:1] }, false},
		{"an error less", func(p *control.Plan, c *control.Choice) { c.Errors = c.Errors[:1] }, false},
		{"the second error alone", func(p *control.Plan, c *control.Choice) { c.Errors, c.Proofs = c.Errors[1:], c.Proofs[1:] }, false},
		{"one error too many", func(p *control.Plan, c *control.Choice) {
			c.Errors, c.Proofs = append(c.Errors, num("3")), append(c.Proofs, c.Proofs[1])
		}, false},

		{"another place", func(p *control.Plan, c *control.Choice) { c.X = nums("3999/1000") }, false},
		{"a place that is not allowed", func(p *control.Plan, c *control.Choice) { c.X = nums("4001/1000") }, false},
		{"that place, without errors", func(p *control.Plan, c *control.Choice) {
			*c = control.Choice{X: nums("4001/1000")}
		}, false},
		{"any allowed place, without errors", func(p *control.Plan, c *control.Choice) { *c = control.Choice{X: nums("7/2")} }, true},
		{"no place", func(p *control.Plan, c *control.Choice) { c.X = nil }, false},
		{"no place, without errors", func(p *control.Plan, c *control.Choice) { *c = control.Choice{} }, false},
		{"a long place", func(p *control.Plan, c *control.Choice) { c.X = nums("4 0") }, false},

		{"a greater error", func(p *control.Plan, c *control.Choice) { c.Errors[1] = num("4") }, false},
		{"a lesser error", func(p *control.Plan, c *control.Choice) { c.Errors[1] = num("2") }, false},
		{"an error below 0", func(p *control.Plan, c *control.Choice) { c.Errors[0] = num("-2") }, false},
		{"the errors exchanged", func(p *control.Plan, c *control.Choice) { slices.Reverse(c.Errors) }, false},
		{"the proofs exchanged", func(p *control.Plan, c *control.Choice) { slices.Reverse(c.Proofs) }, false},

		{"another kind", func(p *control.Plan, c *control.Choice) { c.Proofs[0].Kind = hull.Void }, false},
		{"an unknown kind", func(p *control.Plan, c *control.Choice) { c.Proofs[1].Kind = 77 }, false},
		{"another value", func(p *control.Plan, c *control.Choice) { c.Proofs[0].Value = num("2") }, false},
		{"another value, and error", func(p *control.Plan, c *control.Choice) { c.Errors[1], c.Proofs[1].Value = num("4"), num("-4") }, false},
		{"another point", func(p *control.Plan, c *control.Choice) { c.Proofs[0].Point = nums("3 2") }, false},
		{"a point without its error", func(p *control.Plan, c *control.Choice) { c.Proofs[0].Point = nums("4") }, false},
		{"a ray", func(p *control.Plan, c *control.Choice) { c.Proofs[0].Ray = nums("0 0") }, false},
		{"other weights", func(p *control.Plan, c *control.Choice) { c.Proofs[1].Weights[0] = num("1/7") }, false},
		{"no weights", func(p *control.Plan, c *control.Choice) { c.Proofs[1].Weights = nil }, false},
		{"weights of another task", func(p *control.Plan, c *control.Choice) { c.Proofs[1].Weights = c.Proofs[0].Weights }, false},
	} {
		p := example()
		choice, _ := control.Choose(p, 22)
		c.alter(&p, &choice)
		expectBool(t, "ProveChoice: "+c.name, control.ProveChoice(p, choice), c.want)
	}
}

// P9.2: weights that are written out, for the rows in the chapter's order: x <= 4,
// -x <= 0, for the first task x <= 6 + 2, -x <= -6 + 2, for the own one
// x - e <= 6, -x - e <= -6, then 1.
func TestWrittenProofs(t *testing.T) {
	p := example()
	first := hull.Answer{Kind: hull.Optimal, Value: num("-2"), Point: nums("4 2"), Weights: nums("1 0 0 1")}
	second := hull.Answer{Kind: hull.Optimal, Value: num("-3"), Point: nums("4 3"), Weights: nums("0 0 0 1 1 0")}
	c := control.Choice{X: nums("4"), Errors: nums("2 3"), Proofs: []hull.Answer{first, second}}
	expectBool(t, "ProveChoice of what is written out", control.ProveChoice(p, c), true)
	c.Proofs[0].Weights = nums("1 0 1 0")
	expectBool(t, "ProveChoice with rows exchanged", control.ProveChoice(p, c), false)
	c.Proofs[0].Weights = nums("1 0 0 1")
	c.Proofs[1].Weights = nums("0 0 1 0 1 0")
	expectBool(t, "ProveChoice with rows of the task before exchanged", control.ProveChoice(p, c), false)

	two := plan("1 4, -1 0", "9", "1 6, 1 7")
	c = control.Choice{X: nums("4"), Errors: nums("3"), Proofs: []hull.Answer{
		{Kind: hull.Optimal, Value: num("-3"), Point: nums("4 3"), Weights: nums("1 0 0 0 0 1")},
	}}
	expectBool(t, "ProveChoice of a task of two rows", control.ProveChoice(two, c), true)
	c.Proofs[0].Weights = nums("1 0 0 1 0 0")
	expectBool(t, "ProveChoice with the weight of its first row", control.ProveChoice(two, c), false)
}

// isRight reports whether a choice is right for a valid plan.
func isRight(p control.Plan, c control.Choice) bool {
	if c.Crouch {
		return numsText(c.X) == numsText(p.Crouch) && len(c.Errors)+len(c.Proofs) == 0
	}
	if len(c.Errors) != len(c.Proofs) || len(c.Errors) > len(p.Tasks) || !hull.Has(p.Hard, c.X) {
		return false
	}
	for k, own := range c.Errors {
		a := c.Proofs[k]
		if own.Sign() < 0 || a.Kind != hull.Optimal || a.Value.Cmp(own.Neg()) != 0 || !hull.Prove(goalOf(p), rowsOf(p, k, c.Errors), a) {
			return false
		}
		if at, e := control.ErrorOf(p, k, c.X); e != api.OK || at.Cmp(own) > 0 {
			return false
		}
	}
	return true
}

// alterNumber changes one number of a list, if it has any.
func (s *source) alterNumber(l []exact.Q) []exact.Q {
	if len(l) == 0 {
		return nums("1")
	}
	if i := s.below(len(l)); s.chance(4) {
		return without(l, i)
	} else {
		return with(l, i, l[i].Add(s.one("1 -1 1/1000 -1/1000 0")))
	}
}

// alterChoice changes a choice in one place.
func (s *source) alterChoice(c control.Choice) control.Choice {
	c.Proofs = slices.Clone(c.Proofs)
	switch k := s.below(9); {
	case k == 0:
		c.Crouch = !c.Crouch
	case k < 3:
		c.X = s.alterNumber(c.X)
	case k < 5:
		c.Errors = s.alterNumber(c.Errors)
	case len(c.Proofs) == 0:
		c.Proofs = make([]hull.Answer, 1)
	default:
		a := &c.Proofs[s.below(len(c.Proofs))]
		switch k {
		case 5:
			a.Kind += uint8(s.below(3))
		case 6:
			a.Value = a.Value.Add(s.one("0 1 -1/1000"))
		case 7:
			a.Point = s.alterNumber(a.Point)
		case 8:
			a.Weights = s.alterNumber(a.Weights)
		}
	}
	return c
}

// P9.2: choices that look random, altered in one place or two, or in none.
func TestRandomProveChoice(t *testing.T) {
	s := source(921)
	right, wrong := 0, 0
	for range 800 {
		p := s.plan(1 + s.below(3))
		c, e := control.Choose(p, s.budget(p))
		expectError(t, "Choose", e, api.OK)
		for range s.below(3) {
			c = s.alterChoice(c)
		}
		want := isRight(p, c)
		expectBool(t, "ProveChoice of "+choiceText(c)+" for "+planText(p), control.ProveChoice(p, c), want)
		if want {
			right++
		} else {
			wrong++
		}
	}
	if right < 100 || wrong < 100 {
		t.Error("only", right, "right and", wrong, "wrong choices")
	}
}

// P9.2: the order of errors: a plan that is not valid comes first.
func TestChooseErrors(t *testing.T) {
	open := plan("", "1 2")
	_, e := control.Choose(open, 0)
	expectError(t, "Choose of an open plan", e, api.ErrOpen)
	open.Crouch = nil
	_, e = control.Choose(open, 0)
	expectError(t, "Choose of an open plan that is wrong", e, api.ErrArg)
	_, e = control.Choose(open, -1)
	expectError(t, "Choose of a wrong plan without a budget", e, api.ErrArg)
}
