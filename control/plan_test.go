package control_test

import (
	"math"
	"slices"
	"strconv"
	"testing"

	"amble/api"
	"amble/control"
	"amble/exact"
	"amble/hull"
)

// expectPlanError checks the error of all calls with a plan. Of a plan that is
// valid Choose is asked for nothing but the crouch.
func expectPlanError(t *testing.T, name string, p control.Plan, want api.Errno) {
	t.Helper()
	expectError(t, "CheckPlan of "+name, control.CheckPlan(p), want)
	_, e := control.Cost(p, -1)
	expectError(t, "Cost of "+name, e, want)
	c, e := control.Choose(p, -1)
	expectError(t, "Choose of "+name, e, want)
	expectBool(t, "Choose of "+name, c.Crouch, want == api.OK)
	if len(p.Tasks) > 0 {
		_, e = control.ErrorOf(p, 0, make([]exact.Q, p.Hard.N&15))
		expectError(t, "ErrorOf of "+name, e, want)
	}
	crouch := control.Choice{Crouch: true, X: slices.Clone(p.Crouch)}
	expectBool(t, "ProveChoice of "+name, control.ProveChoice(p, crouch), want == api.OK)
}

// wide returns a plan of n numbers with so many hard rows, and a task.
func wide(n, rows int) control.Plan {
	zeros := make([]exact.Q, n)
	return control.Plan{
		Hard:   hull.Poly{N: n, Rows: times(rows, hull.Row{A: zeros})},
		Tasks:  []control.Task{{A: exact.Mat{zeros}, B: make([]exact.Q, 1)}},
		Crouch: zeros,
	}
}

// P9.1: plans of all sizes, and what is wrong with others.
func TestCheckPlan(t *testing.T) {
	for n := -1; n <= api.MaxDim+1; n++ {
		want := api.ErrArg
		if n >= 1 && n <= api.MaxWish {
			want = api.OK
		}
		p := wide(max(n, 0), 1)
		p.Hard.N = n
		expectPlanError(t, "a plan of "+strconv.Itoa(n)+" numbers", p, want)
	}
	expectPlanError(t, "a plan of no hard rows", wide(3, 0), api.OK)
	expectPlanError(t, "a plan of MaxHard rows", wide(3, api.MaxHard), api.OK)
	expectPlanError(t, "a plan of more rows", wide(3, api.MaxHard+1), api.ErrArg)
	expectPlanError(t, "a plan of too many rows for hull", wide(3, api.MaxRows+1), api.ErrArg)
	for _, c := range []struct {
		name string
		p    control.Plan
		want api.Errno
	}{
		{"the example", example(), api.OK},
		{"no tasks", plan("1 4", "9"), api.OK},
		{"MaxTasks tasks", plan("1 4", "9", times(api.MaxTasks, "1 6")...), api.OK},
		{"more tasks", plan("1 4", "9", times(api.MaxTasks+1, "1 6")...), api.ErrArg},
		{"a void Hard", plan("0 -1", "9", "1 6"), api.OK},
		{"a task of 8 rows", plan("1 4", "9", "1 1,1 2,1 3,1 4,1 5,1 6,1 7,1 8"), api.OK},
		{"a task of 9 rows", plan("1 4", "9", "1 1,1 2,1 3,1 4,1 5,1 6,1 7,1 8,1 9"), api.ErrArg},
		{"a task of no rows", plan("1 4", "9", ""), api.ErrArg},
		{"a second task of no rows", plan("1 4", "9", "1 6", ""), api.ErrArg},
		{"a hard row that is too long", plan("1 0 4", "9", "1 6"), api.ErrArg},
		{"a second hard row that is too short", plan("1 4, 4", "9", "1 6"), api.ErrArg},
		{"a row of a task that is too long", plan("1 4", "9", "1 0 6"), api.ErrArg},
		{"a row of a task that is too short", plan("1 4", "9", "6"), api.ErrArg},
		{"a second row of a task that is too long", plan("1 4", "9", "1 6, 1 1 6"), api.ErrArg},
		{"a second row of a second task that is too short", plan("1 4", "9", "1 6", "1 6, 6"), api.ErrArg},
		{"no crouch", control.Plan{Hard: hull.Poly{N: 1}}, api.ErrArg},
		{"a long crouch", control.Plan{Hard: hull.Poly{N: 1}, Crouch: nums("1 2")}, api.ErrArg},
		{"a short crouch", control.Plan{Hard: hull.Poly{N: 2}, Crouch: nums("1")}, api.ErrArg},
		{"nothing", control.Plan{}, api.ErrArg},
	} {
		expectPlanError(t, c.name, c.p, c.want)
	}
	for _, n := range []int{math.MinInt, math.MaxInt} {
		expectPlanError(t, "a plan of very many numbers", control.Plan{Hard: hull.Poly{N: n}}, api.ErrArg)
	}
	p := example()
	p.Tasks[1].B = nil
	expectPlanError(t, "a task without numbers B", p, api.ErrArg)
	p.Tasks[1].B = nums("1 2")
	expectPlanError(t, "a task with too many numbers B", p, api.ErrArg)
}

// P9.1: costs that are written out, and no such tasks.
func TestCost(t *testing.T) {
	for _, c := range []struct {
		name string
		p    control.Plan
		want string
	}{
		{"the example", example(), "[2 10 22]"},
		{"no tasks", plan("1 4", "9"), "[1]"},
		{"no hard rows", plan("", "9", "1 6, 1 7", "1 6"), "[0 8 20]"},
		{"a task of 8 rows", plan("1 1 4", "9 9", "1 1 1,1 1 2,1 1 3,1 1 4,1 1 5,1 1 6,1 1 7,1 1 8", "1 1 1"), "[2 53 110]"},
		{"what there may be at most", widest(), "[480 1164 1992 2964 4080 5340 6744]"},
	} {
		var costs []int64
		for k := range len(c.p.Tasks) + 1 {
			n, e := control.Cost(c.p, k-1)
			expectError(t, "Cost of "+c.name, e, api.OK)
			costs = append(costs, int64(n))
		}
		expect(t, "Cost of "+c.name, intsText(costs), c.want)
	}
	for _, k := range []int{math.MinInt, -3, -2, 2, 3, math.MaxInt} {
		n, e := control.Cost(example(), k)
		expectError(t, "Cost of the task "+strconv.Itoa(k), e, api.ErrRange)
		expect(t, "Cost of the task "+strconv.Itoa(k), strconv.Itoa(n), "0")
	}
	_, e := control.Cost(plan("1 4", "9"), 0)
	expectError(t, "Cost of the first of no tasks", e, api.ErrRange)
	_, e = control.Cost(plan("1 4", "", "1 6"), 7)
	expectError(t, "Cost of no task of a wrong plan", e, api.ErrArg)
}

// widest returns a plan of MaxWish numbers with MaxHard rows and MaxTasks tasks
// of 8 rows, in which each task wants something else of one number.
func widest() control.Plan {
	n := api.MaxWish
	p := control.Plan{Hard: hull.Poly{N: n}, Crouch: make([]exact.Q, n)}
	for i := range api.MaxHard {
		a := make([]exact.Q, n)
		a[i%n] = num("1")
		if i/n%2 > 0 {
			a[i%n] = num("-1")
		}
		p.Hard.Rows = append(p.Hard.Rows, hull.Row{A: a, B: exact.Int(int64(10 + i))})
	}
	for k := range api.MaxTasks {
		var t control.Task
		for i := range 8 {
			a := make([]exact.Q, n)
			a[k], a[7] = exact.Int(int64(1+i)), exact.Int(int64(i-k))
			t.A, t.B = append(t.A, a), append(t.B, exact.Int(int64(i*i)))
		}
		p.Tasks = append(p.Tasks, t)
	}
	return p
}

// P9.1: errors of tasks that are written out, and the order of what is wrong.
func TestErrorOf(t *testing.T) {
	p := plan("0 0 -1", "9 9", "1 0 3", "1 1 5, 2 -1 0, 0 0 1/2")
	for _, c := range []struct {
		task    int
		x, want string
	}{
		{0, "3 7", "0"},
		{0, "5 7", "2"},
		{0, "-1/2 7", "7/2"},
		{1, "0 0", "5"},
		{1, "5/3 10/3", "1/2"},
		{1, "2 3", "1"},
		{1, "-9 0", "18"},
	} {
		got, e := control.ErrorOf(p, c.task, nums(c.x))
		expectOK(t, "ErrorOf at "+c.x, got.Text(), e, c.want)
	}
	for _, k := range []int{math.MinInt, -2, -1, 2, math.MaxInt} {
		_, e := control.ErrorOf(p, k, nums("1 2"))
		expectError(t, "ErrorOf the task "+strconv.Itoa(k), e, api.ErrRange)
		_, e = control.ErrorOf(p, k, nums("1"))
		expectError(t, "ErrorOf no task at a short point", e, api.ErrRange)
	}
	for _, x := range []string{"", "1", "1 2 3"} {
		got, e := control.ErrorOf(p, 0, nums(x))
		expectError(t, "ErrorOf at ["+x+"]", e, api.ErrArg)
		expect(t, "ErrorOf at ["+x+"]", got.Text(), "0")
	}
	p.Crouch = nil
	_, e := control.ErrorOf(p, 7, nil)
	expectError(t, "ErrorOf no task of a wrong plan", e, api.ErrArg)
}
