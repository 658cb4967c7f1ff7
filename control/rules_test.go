package control_test

import (
	"maps"
	"math"
	"slices"
	"strconv"
	"strings"
	"sync"
	"testing"

	"amble/api"
	"amble/control"
	"amble/exact"
	"amble/hull"
	"amble/machine"
)

// P1, P2 and the rules of the document that concern all calls of the layer.

// arguments are those of all calls; each call takes some of them.
type arguments struct {
	plan        control.Plan
	task        int
	budget      int
	x           []exact.Q
	choice      control.Choice
	program     control.Program
	in          []int64
	spread      []control.Range
	ideal, off  []exact.Q
	law         control.Law
	width, frac int
	heater
	rider
	wanted []exact.Q
	fault  control.Fault
	lost   control.Lost
	k      int
}

func (a arguments) all() string {
	return strings.Join([]string{
		planText(a.plan), numsText(a.x), choiceText(a.choice), programText(a.program), intsText(a.in), rangesText(a.spread),
		numsText(a.ideal), numsText(a.off), lawText(a.law), a.heater.text(), a.rider.text(), numsText(a.wanted),
	}, "|")
}

// result is what a call gave: its memory, other values, and its error.
type result struct {
	choice  control.Choice
	ints    []int64
	spread  []control.Range
	list    []exact.Q
	program control.Program
	cycles  []control.Cycle
	motions []control.Motion
	more    string
	e       api.Errno
}

func (r result) values() string {
	return strings.Join([]string{
		choiceText(r.choice), intsText(r.ints), rangesText(r.spread), numsText(r.list), programText(r.program),
		cyclesText(r.cycles), motionsText(r.motions), r.more,
	}, "|")
}

func (r result) all() string { return r.values() + "|" + strconv.Itoa(int(r.e)) }

func ofError(e api.Errno) result { return result{e: e} }

func ofBool(is bool, e api.Errno) result { return result{more: strconv.FormatBool(is), e: e} }

func ofNumber(q exact.Q, e api.Errno) result { return result{more: q.Text(), e: e} }

// calls returns all calls of the layer with these arguments.
func calls(a arguments) map[string]func() result {
	m, r, h := a.heater.Motor, a.rider.Rein, a.heater
	return map[string]func() result{
		"CheckPlan": func() result { return ofError(control.CheckPlan(a.plan)) },
		"Cost": func() result {
			n, e := control.Cost(a.plan, a.task)
			return result{more: strconv.Itoa(n), e: e}
		},
		"Choose":       func() result { c, e := control.Choose(a.plan, a.budget); return result{choice: c, e: e} },
		"ErrorOf":      func() result { return ofNumber(control.ErrorOf(a.plan, a.task, a.x)) },
		"ProveChoice":  func() result { return ofBool(control.ProveChoice(a.plan, a.choice), 0) },
		"CheckProgram": func() result { return ofError(control.CheckProgram(a.program)) },
		"Eval": func() result {
			out, at, e := control.Eval(a.program, a.in)
			return result{ints: out, more: strconv.Itoa(at), e: e}
		},
		"Ranges": func() result {
			out, at, e := control.Ranges(a.program, a.spread)
			return result{spread: out, more: strconv.Itoa(at), e: e}
		},
		"Ideal":   func() result { l, e := control.Ideal(a.program, a.ideal); return result{list: l, e: e} },
		"Bounds":  func() result { l, e := control.Bounds(a.program, a.spread, a.off); return result{list: l, e: e} },
		"Compile": func() result { p, e := control.Compile(a.law, a.width, a.frac); return result{program: p, e: e} },
		"Allowed": func() result { return ofNumber(control.Allowed(m, h.step, h.heat, h.delay, a.k)) },
		"Watch": func() result {
			l, e := control.Watch(m, h.step, h.heat, h.delay, a.k, a.wanted, a.fault)
			return result{cycles: l, e: e}
		},
		"Safe": func() result { return ofBool(control.Safe(r, a.place, a.speed, a.rider.delay)) },
		"Hold": func() result { return ofNumber(control.Hold(r, a.place, a.speed, a.off0(), a.rider.delay)) },
		"Drive": func() result {
			l, e := control.Drive(r, a.place, a.speed, a.wanted, a.rider.delay, a.lost)
			return result{motions: l, e: e}
		},
	}
}

// off0 returns a number that is wanted.
func (a arguments) off0() exact.Q { return exact.Sum(a.wanted...) }

// zeros returns what calls with an error give, where that is not nothing.
func zeros() map[string]string {
	number := result{more: "0"}.values()
	return map[string]string{
		"Cost": number, "ErrorOf": number, "Allowed": number, "Hold": number,
		"Safe": result{more: "false"}.values(),
	}
}

// ordinary returns arguments with which all calls succeed.
func ordinary(s *source) arguments {
	a := arguments{heater: s.heater(), rider: s.safe(), fault: s.fault(), wanted: s.wishes(1 + s.below(6))}
	a.plan = first(func() control.Plan { return s.plan(1 + s.below(3)) }, func(p control.Plan) bool { return len(p.Tasks) > 0 })
	a.task, a.budget, a.x = s.below(len(a.plan.Tasks)), s.budget(a.plan), s.numbers(a.plan.Hard.N)
	a.choice, _ = control.Choose(a.plan, 1<<30)
	isRight := func(p control.Program) bool {
		a.spread, a.in = s.ranges(p)
		_, _, e := control.Ranges(p, a.spread)
		return e == api.OK
	}
	a.program = first(s.program, isRight)
	a.ideal, a.off = s.numbers(a.program.Inputs), s.errors(a.program.Inputs)
	a.width, a.frac = 62, s.below(9)
	a.law = first(s.law, func(l control.Law) bool { _, e := control.Compile(l, 62, a.frac); return e == api.OK })
	a.lost, a.k = s.lost(a.rider.delay), s.below(api.MaxFine+1)
	return a
}

// marker gives numbers no two of which are the same.
type marker int64

func (m *marker) next() exact.Q { return exact.Int(m.int()) }

func (m *marker) int() int64 { *m++; return int64(*m) }

// scribble writes into all memory of a result, everywhere something else.
func (r result) scribble() {
	m := marker(5000)
	lists := [][]exact.Q{r.list, r.choice.X, r.choice.Errors}
	for _, a := range r.choice.Proofs {
		lists = append(lists, a.Point, a.Ray, a.Weights)
	}
	for _, l := range lists {
		for i := range l {
			l[i] = m.next()
		}
	}
	for i := range r.ints {
		r.ints[i] = m.int()
	}
	for i := range r.spread {
		r.spread[i] = control.Range{Low: m.int(), High: m.int()}
	}
	for i := range r.program.Ops {
		r.program.Ops[i].K = m.int()
	}
	for i := range r.program.Outputs {
		r.program.Outputs[i] = int(m.int())
	}
	for i := range r.cycles {
		r.cycles[i] = control.Cycle{Torque: m.next(), Heat: m.next()}
	}
	for i := range r.motions {
		r.motions[i] = control.Motion{Accel: m.next(), Speed: m.next(), Place: m.next()}
	}
}

// isDistinct reports whether no two numbers of a result are at one place of the
// memory: each has another value after scribble.
func (r result) isDistinct() bool {
	all := slices.Concat(r.list, r.choice.X, r.choice.Errors)
	for _, a := range r.choice.Proofs {
		all = slices.Concat(all, a.Point, a.Ray, a.Weights)
	}
	seen := map[string]bool{}
	for _, q := range all {
		if seen[q.Text()] {
			return false
		}
		seen[q.Text()] = true
	}
	return true
}

// grow appends to all lists of a result, whose room may belong to others.
func (r result) grow() {
	lists := [][]exact.Q{r.list, r.choice.X, r.choice.Errors}
	for _, a := range r.choice.Proofs {
		lists = append(lists, a.Point, a.Ray, a.Weights)
	}
	for _, l := range lists {
		_ = append(l, nums("777 778 779")...)
	}
	_ = append(r.choice.Proofs, make([]hull.Answer, 3)...)
	_ = append(r.ints, 777, 778, 779)
	_ = append(r.spread, make([]control.Range, 3)...)
	_ = append(r.program.Ops, make([]control.Op, 3)...)
	_ = append(r.program.Outputs, 777, 778, 779)
	_ = append(r.cycles, make([]control.Cycle, 3)...)
	_ = append(r.motions, make([]control.Motion, 3)...)
}

// R4 and P2: a result shares no memory with an argument, with another result,
// or with another part of its own; the same call gives the same.
func TestMemory(t *testing.T) {
	s := source(990)
	for range 60 {
		a := ordinary(&s)
		before := a.all()
		for name, call := range calls(a) {
			first, second := call(), call()
			expectError(t, name, first.e, api.OK)
			want := second.all()
			expect(t, name+" again", first.all(), want)
			first.grow()
			expect(t, name+": the result after its lists have grown", first.all(), want)
			first.scribble()
			expect(t, name+": another result", second.all(), want)
			expect(t, name+": the arguments", a.all(), before)
			if !first.isDistinct() {
				t.Error(name, "gives the same memory twice in one result")
			}
		}
	}
}

// roomy returns a list with room behind it, which holds other elements, and a
// function that reports whether they are still there.
func roomy[T any](l []T, isKept func(T) bool, other T) ([]T, func() bool) {
	long := append(append([]T{}, l...), other, other, other)
	return long[:len(l)], func() bool { return !slices.ContainsFunc(long[len(l):], func(x T) bool { return !isKept(x) }) }
}

// R4: what lies behind the lists of arguments belongs to others.
func TestRoomBehindArguments(t *testing.T) {
	s := source(991)
	number := num("888")
	isNumber := func(q exact.Q) bool { return q.Cmp(number) == 0 }
	for range 30 {
		a := ordinary(&s)
		var checks []func() bool
		var check func() bool
		add := func() { checks = append(checks, check) }
		lists := []*[]exact.Q{&a.plan.Crouch, &a.x, &a.ideal, &a.off, &a.wanted, &a.law.C, &a.law.Low, &a.law.High, &a.choice.X, &a.choice.Errors}
		for i := range a.plan.Hard.Rows {
			lists = append(lists, &a.plan.Hard.Rows[i].A)
		}
		for i, own := range a.plan.Tasks {
			lists = append(lists, &a.plan.Tasks[i].B)
			for k := range own.A {
				lists = append(lists, &own.A[k])
			}
		}
		for i := range a.law.K {
			lists = append(lists, &a.law.K[i])
		}
		for i := range a.choice.Proofs {
			lists = append(lists, &a.choice.Proofs[i].Point, &a.choice.Proofs[i].Weights)
		}
		for _, l := range lists {
			*l, check = roomy(*l, isNumber, number)
			add()
		}
		a.plan.Hard.Rows, check = roomy(a.plan.Hard.Rows, func(r hull.Row) bool { return isNumber(r.B) }, hull.Row{B: number})
		add()
		a.plan.Tasks, check = roomy(a.plan.Tasks, func(own control.Task) bool { return len(own.B) == 0 }, control.Task{})
		add()
		a.program.Ops, check = roomy(a.program.Ops, func(o control.Op) bool { return o.K == 888 }, control.Op{K: 888})
		add()
		a.program.Outputs, check = roomy(a.program.Outputs, func(n int) bool { return n == 888 }, 888)
		add()
		a.in, check = roomy(a.in, func(n int64) bool { return n == 888 }, 888)
		add()
		a.spread, check = roomy(a.spread, func(r control.Range) bool { return r.Low == 888 }, control.Range{Low: 888})
		add()
		for name, call := range calls(a) {
			call().grow()
			for _, isKept := range checks {
				if !isKept() {
					t.Error(name, "writes behind its arguments")
				}
			}
		}
	}
}

// P2: calls that run at the same time do not disturb each other.
func TestAtTheSameTime(t *testing.T) {
	s := source(992)
	a := ordinary(&s)
	all := calls(a)
	want := map[string]string{}
	for name, call := range all {
		want[name] = call().all()
	}
	names := slices.Sorted(maps.Keys(all))
	var wait sync.WaitGroup
	for i := range 8 {
		wait.Go(func() {
			for k := range 3 * len(names) {
				name := names[(k+3*i)%len(names)]
				if all[name]().all() != want[name] {
					t.Error(name, "gives something else at the same time as other calls")
				}
			}
		})
	}
	wait.Wait()
}

// R3: a nil list and an empty list are the same.
func TestNilAndEmpty(t *testing.T) {
	first := arguments{plan: plan("", "1 2"), budget: -1, width: 8, program: control.Program{Width: 8}}
	first.choice = control.Choice{Crouch: true, X: nums("1 2")}
	first.heater, first.rider = heated("1 1 1 1", "1 1", 1, 1), riding("0 10 1 1", "5 0", 1)
	second := first
	second.plan.Hard.Rows, second.plan.Tasks = []hull.Row{}, []control.Task{}
	second.choice.Errors, second.choice.Proofs = []exact.Q{}, []hull.Answer{}
	second.program.Ops, second.program.Outputs = []control.Op{}, []int{}
	second.in, second.spread, second.ideal, second.off = []int64{}, []control.Range{}, []exact.Q{}, []exact.Q{}
	second.law = control.Law{K: exact.Mat{}, C: []exact.Q{}, Low: []exact.Q{}, High: []exact.Q{}}
	second.wanted, second.x = []exact.Q{}, []exact.Q{}
	others := calls(second)
	for name, call := range calls(first) {
		got := call()
		expect(t, name+" of empty lists", others[name]().all(), got.all())
		if name != "ErrorOf" && name != "Cost" {
			expectError(t, name+" of nil lists", got.e, api.OK)
		}
	}
	bare, empty := law("1 0 5"), law("1 0 5")
	bare.K[0], empty.K[0] = nil, []exact.Q{}
	p, e := control.Compile(bare, 8, 2)
	q, _ := control.Compile(empty, 8, 2)
	expectOK(t, "Compile of an empty row", programText(p), e, programText(q))
	c := control.Choice{X: nums("1 2"), Errors: nums("0"), Proofs: []hull.Answer{
		{Kind: hull.Optimal, Point: nums("1 2 0"), Ray: []exact.Q{}, Weights: nums("1/2 1/2")},
	}}
	p2 := plan("", "1 2", "0 0 0")
	expectBool(t, "ProveChoice with an empty ray", control.ProveChoice(p2, c), true)
	c.Proofs[0].Ray = nil
	expectBool(t, "ProveChoice with a nil ray", control.ProveChoice(p2, c), true)
	expectBool(t, "ProveChoice of nothing", control.ProveChoice(control.Plan{}, control.Choice{}), false)
}

// oddCount returns an integer, often one that is no count.
func (s *source) oddCount() int {
	odd := []int{math.MinInt, -1, 0, 1, 1, 2, 2, 3, 5, 8, 16, 17, 40, 62, 63, 64, 1 << 32, math.MaxInt}
	return odd[s.below(len(odd))]
}

// oddNumber returns a number, now and then 0 or a great one.
func (s *source) oddNumber() exact.Q {
	odd := []int64{math.MinInt64, -1000, -2, -1, 1, 2, 1 << 32, math.MaxInt64}
	n := odd[s.below(len(odd))]
	switch s.below(5) {
	case 0:
		return exact.Q{}
	case 1:
		q := exact.Int(n)
		for range s.below(3) {
			q = q.Mul(q)
		}
		return q
	case 2:
		q, _ := exact.Of(1, n)
		return q
	}
	return s.number()
}

// oddNumbers returns a list, often of the length n.
func (s *source) oddNumbers(n int) []exact.Q {
	if s.chance(8) {
		n = s.below(15)
	}
	l := make([]exact.Q, n)
	for i := range l {
		l[i] = s.oddNumber()
	}
	return l
}

// oddPlan returns a plan in which some parts are strange.
func (s *source) oddPlan() control.Plan {
	n := 1 + s.below(4)
	p := s.plan(n)
	switch s.below(12) {
	case 0:
		p.Hard.N = s.oddCount()
	case 1:
		p.Crouch = s.oddNumbers(n)
	case 2:
		p.Tasks = append(p.Tasks, control.Task{A: exact.Mat{s.oddNumbers(n)}, B: s.oddNumbers(1)})
	case 3:
		p.Hard.Rows = append(p.Hard.Rows, hull.Row{A: s.oddNumbers(n), B: s.oddNumber()})
	case 4:
		p.Hard.Rows = p.Hard.Rows[:s.below(len(p.Hard.Rows))]
	case 5:
		p.Tasks = times(s.below(8), s.task(n))
	}
	return p
}

// oddProgram returns a program in which some parts are strange.
func (s *source) oddProgram() control.Program {
	p := s.program()
	i := s.below(len(p.Ops))
	switch s.below(16) {
	case 0:
		p.Width = s.oddCount()
	case 1:
		p.Inputs = s.oddCount()
	case 2:
		p.Outputs = append(p.Outputs, s.oddCount())
	case 3:
		p.Ops[i].A = s.oddCount()
	case 4:
		p.Ops[i].B = s.oddCount()
	case 5:
		p.Ops[i].K = int64(s.next())
	case 6:
		p.Ops[i].Shift = uint8(s.next())
	case 7:
		p.Ops[i].Kind = uint8(s.below(12))
	}
	return p
}

// oddLaw returns a law in which some parts are strange.
func (s *source) oddLaw() control.Law {
	l := s.law()
	switch s.below(8) {
	case 0:
		l.C = s.oddNumbers(len(l.C))
	case 1:
		l.Low = s.oddNumbers(len(l.C))
	case 2:
		l.High = s.oddNumbers(len(l.C))
	case 3:
		l.K = append(l.K, s.oddNumbers(2))
	case 4:
		l = broad(s.below(60), s.below(20))
	}
	return l
}

// oddInputs returns inputs and ranges of a program, often as many as it has.
func (s *source) oddInputs(a *arguments) {
	p := a.program
	if p.Inputs = min(max(p.Inputs, 0), 20); s.chance(8) {
		p.Inputs = s.below(5)
	}
	p.Width = min(max(p.Width, 2), 62)
	a.spread, a.in = s.ranges(p)
	a.ideal, a.off = s.oddNumbers(p.Inputs), s.oddNumbers(p.Inputs)
	for i := range a.off {
		if s.below(4) > 0 {
			a.off[i] = a.off[i].Abs()
		}
	}
	if len(a.spread) > 0 && s.chance(6) {
		a.spread[0] = control.Range{Low: int64(s.next()), High: int64(s.next())}
	}
}

// strange returns any arguments.
func (s *source) strange() arguments {
	a := arguments{plan: s.oddPlan(), program: s.oddProgram(), law: s.oddLaw(), heater: s.heater(), rider: s.safe()}
	a.task, a.budget, a.x = s.below(5)-2, s.budget(a.plan), s.oddNumbers(len(a.plan.Crouch))
	if s.chance(6) {
		a.task, a.budget = s.oddCount(), s.oddCount()
	}
	a.choice, _ = control.Choose(a.plan, 1<<30)
	for range s.below(3) {
		a.choice = s.alterChoice(a.choice)
	}
	s.oddInputs(&a)
	a.width, a.frac = []int{8, 16, 62}[s.below(3)], s.below(5)
	a.wanted = s.oddNumbers(s.below(5))
	a.fault, a.lost, a.k = s.fault(), s.lost(a.rider.delay), s.below(api.MaxFine+1)
	odd := []*exact.Q{
		&a.Torque, &a.Heating, &a.Cooling, &a.heater.Most, &a.step, &a.heat,
		&a.Low, &a.High, &a.rider.Most, &a.Step, &a.place, &a.speed,
	}
	for _, q := range odd {
		if s.chance(16) {
			*q = s.oddNumber()
		}
	}
	counts := []*int{&a.width, &a.frac, &a.fault.At, &a.lost.At, &a.lost.Long, &a.k, &a.heater.delay, &a.rider.delay, &a.Body}
	for _, n := range counts {
		if s.chance(16) {
			*n = s.oddCount()
		}
	}
	if s.chance(16) {
		a.fault.Kind = uint8(s.next())
		a.wanted = make([]exact.Q, 256+s.below(2))
	}
	return a
}

// P1 and R2: no call panics, and with an error every other result is zero; Eval
// and Ranges have a place then.
func TestStrangeArguments(t *testing.T) {
	s := source(993)
	failures, successes := map[string]int{}, map[string]int{}
	zero := zeros()
	for range 3000 {
		a := s.strange()
		before := a.all()
		for name, call := range calls(a) {
			r := call()
			expect(t, name+": the arguments", a.all(), before)
			if r.e == api.OK {
				successes[name]++
				continue
			}
			failures[name]++
			want := zero[name]
			if want == "" {
				want = result{}.values()
			}
			if name == "Eval" || name == "Ranges" {
				at, _ := strconv.Atoi(r.more)
				isPlace := at >= -1 && at < len(a.program.Ops)
				if r.e != api.ErrRange && at != 0 || !isPlace && at != 0 {
					t.Error(name, "gives the place", at, "with the error", r.e)
				}
				r.more = ""
			}
			expect(t, name+" with an error", r.values(), want)
		}
	}
	for name := range calls(s.strange()) {
		if successes[name] < 200 || failures[name] < 200 && name != "ProveChoice" && name != "Choose" {
			t.Error(name, "failed", failures[name], "times, and did not", successes[name], "times")
		}
	}
}

// P1: numbers of any size.
func TestGreatNumbers(t *testing.T) {
	great := num("1" + strings.Repeat("0", 300))
	small := over(num("1"), great)
	p := example()
	for _, q := range []*exact.Q{&p.Hard.Rows[0].B, &p.Tasks[0].B[0], &p.Tasks[1].B[0], &p.Crouch[0]} {
		*q = q.Mul(great)
	}
	c, e := control.Choose(p, 22)
	expectOK(t, "Choose of great numbers", numsText([]exact.Q{c.X[0], c.Errors[0], c.Errors[1]}), e, numsText([]exact.Q{great.Mul(num("4")), great.Mul(num("2")), great.Mul(num("3"))}))
	expectBool(t, "ProveChoice of great numbers", control.ProveChoice(p, c), true)
	p.Tasks[0].B[0] = p.Hard.Rows[0].B.Add(small)
	c, e = control.Choose(p, 22)
	expectOK(t, "the error of what is just not possible", c.Errors[0].Text(), e, small.Text())

	ideal, e := control.Ideal(program(8, 1, "input 0, mul 0 0 62", "1"), []exact.Q{great})
	expectOK(t, "Ideal of a great number", ideal[0].Text(), e, great.Mul(great).Mul(power(-62)).Text())
	bounds, e := control.Bounds(program(8, 1, "input 0, mul 0 0 0", ""), ranges("-3 1"), []exact.Q{great})
	expectOK(t, "Bounds of a great error", bounds[1].Text(), e, great.Mul(great).Add(great.Mul(num("6"))).Text())

	l := law("1 1 -3 3")
	l.Low[0], l.High[0] = small, num("1").Add(small)
	got, e := control.Compile(l, 8, 2)
	expectOK(t, "Compile with limits just above integers", opText(got.Ops[7]), e, opText(op("const 1")))

	h := heater{Motor: motor("10 1 0 8"), step: num("1"), heat: num("8").Sub(small)}
	torque, e := h.allowed()
	expectOK(t, "Allowed with a little room", torque.Text(), e, "0")
	h.Torque, h.Most, h.heat = great, great.Mul(great), exact.Q{}
	torque, e = h.allowed()
	expectOK(t, "Allowed with much room", torque.Text(), e, great.Text())
	h.Most = h.Most.Sub(small)
	torque, e = h.allowed()
	expectOK(t, "Allowed with nearly as much room", torque.Text(), e, great.Sub(num("1")).Text())

	r := riding("0 10 1 1", "7 3", 0)
	r.speed = r.speed.Add(small)
	is, e := r.safe()
	expectOK(t, "Safe of what is just too fast", strconv.FormatBool(is), e, "false")
	r = rider{control.Rein{High: great, Most: num("1"), Step: small}, exact.Q{}, exact.Q{}, 3}
	a, e := r.hold(great)
	expectOK(t, "Hold in little time", a.Text(), e, "1")
}

// P1: long cycles with long numbers end soon.
func TestLongNumbers(t *testing.T) {
	third := over(num("1"), num("3"+strings.Repeat("3", 30)))
	h := heater{Motor: machine.Motor{Torque: num("10"), Heating: third, Cooling: third, Most: num("8")}, step: num("1").Sub(third), delay: 16, k: 64}
	wanted := times(api.MaxCycles, num("9").Add(third))
	cycles, e := h.watch(wanted, control.Fault{Kind: control.Blind, At: 200})
	expectOK(t, "Watch of long numbers", strconv.Itoa(len(cycles)), e, "256")
	for _, c := range cycles {
		if c.Heat.Cmp(h.Most) > 0 {
			t.Fatal("too hot")
		}
	}
	r := rider{control.Rein{High: num("100").Add(third), Most: num("1").Sub(third), Step: third.Add(num("1/10"))}, exact.Q{}, exact.Q{}, 16}
	motions, e := r.drive(wanted, control.Lost{At: 240, Long: 16})
	expectOK(t, "Drive of long numbers", strconv.Itoa(len(motions)), e, "256")
}

// The chapter's examples, and the document's.
func TestExamples(t *testing.T) {
	p := example()
	var costs []int64
	for k := range 3 {
		n, e := control.Cost(p, k-1)
		expectError(t, "Cost of example 1", e, api.OK)
		costs = append(costs, int64(n))
	}
	expect(t, "the costs of example 1", intsText(costs), "[2 10 22]")
	for budget, want := range map[int]string{22: "false [4][2 3]2", 21: "false [4][2]1", 5: "false [0][]0", 1: "true [9][]0"} {
		c, e := control.Choose(p, budget)
		expectOK(t, "Choose of example 1 with "+strconv.Itoa(budget), resultText(c), e, want)
	}
	expectEval(t, small(), "5", "[12]", 0)
	expectEval(t, small(), "60", "", 2)
	expectRanges(t, small(), ranges("-10 10"), "[-10 10][-15 15][-25 25]", 0)
	bounds, e := control.Bounds(small(), ranges("-10 10"), nums("1/2"))
	expectOK(t, "Bounds of example 2", numsText(bounds), e, "[1/2 7/4 9/4]")
	compiled, e := control.Compile(law("5/2 -1 -20 20"), 16, 4)
	want := "const -16, input 0, scale 1 40 0, add 0 2, scale 3 1 4, const -20, max 4 5, const 20, min 6 7"
	expectOK(t, "Compile of example 3", programText(compiled), e, programText(program(16, 1, want, "8")))
	expectEval(t, compiled, "3", "[6]", 0)
	for _, c := range []struct {
		heat  string
		delay int
		want  string
	}{{"0", 0, "2"}, {"0", 1, "2"}, {"0", 7, "1"}, {"8", 0, "0"}} {
		torque, e := control.Allowed(motor("10 1 0 8"), num("1"), num(c.heat), c.delay, 0)
		expectOK(t, "Allowed of example 4", torque.Text(), e, c.want)
	}
	r := rein("0 10 1 1")
	is, e := control.Safe(r, num("7"), num("3"), 0)
	expectOK(t, "Safe of example 5", strconv.FormatBool(is), e, "true")
	is, e = control.Safe(r, num("7"), num("3"), 1)
	expectOK(t, "Safe of example 5 with a delay", strconv.FormatBool(is), e, "false")
	a, e := control.Hold(r, exact.Q{}, exact.Q{}, num("5"), 0)
	expectOK(t, "Hold of example 5", a.Text(), e, "1")
	a, e = control.Hold(r, num("7"), num("3"), num("1"), 0)
	expectOK(t, "Hold of example 5, near the limit", a.Text(), e, "-1")
}
