package gait_test

import (
	"maps"
	"math"
	"slices"
	"strconv"
	"strings"
	"sync"
	"testing"

	"amble/api"
	"amble/balance"
	"amble/exact"
	"amble/gait"
	"amble/hull"
)

// P1, P2 and the rules of the document that concern all calls of the layer.

// arguments are those of all calls; each call takes some of them.
type arguments struct {
	legs    int
	w       gait.Word
	leg     int
	problem gait.Problem
	at      gait.State
	plan    gait.Plan
	by      exact.Point
	copies  int
	rhythm
	s      balance.State
	pushes []exact.Q
	rounds int
	set    hull.Poly
}

func (a arguments) all() string {
	return strings.Join([]string{
		wordText(a.w), problemText(a.problem), placeText(a.at), planText(a.plan), numsText([]exact.Q{a.by.X, a.by.Z}),
		a.text(), stateText(a.s), numsText(a.pushes), polyText(a.set),
	}, "|")
}

// result is what a call gave: its memory, other values, and its error.
type result struct {
	ints   []int
	word   gait.Word
	holds  []gait.Hold
	moves  []gait.Move
	plan   gait.Plan
	m      exact.Mat
	list   []exact.Q
	states []balance.State
	rows   []hull.Row
	more   string
	e      api.Errno
}

func (r result) values() string {
	return strings.Join([]string{
		intsText(r.ints), wordText(r.word), mapText(r.holds), movesText(r.moves), planText(r.plan), matrixText(r.m),
		numsText(r.list), statesText(r.states), polyText(hull.Poly{Rows: r.rows}), r.more,
	}, "|")
}

func (r result) all() string { return r.values() + "|" + strconv.Itoa(int(r.e)) }

func ofPoly(p hull.Poly, e api.Errno) result {
	return result{rows: p.Rows, more: strconv.Itoa(p.N), e: e}
}

func ofError(e api.Errno) result { return result{e: e} }

func ofBool(is bool, e api.Errno) result { return result{more: strconv.FormatBool(is), e: e} }

// calls returns all calls of the layer with these arguments.
func calls(a arguments) map[string]func() result {
	return map[string]func() result{
		"CheckWord":    func() result { return ofError(gait.CheckWord(a.legs, a.w)) },
		"Events":       func() result { l, e := gait.Events(a.legs, a.w); return result{ints: l, e: e} },
		"Duty":         func() result { q, e := gait.Duty(a.legs, a.w, a.leg); return result{more: q.Text(), e: e} },
		"Normal":       func() result { w, e := gait.Normal(a.legs, a.w); return result{word: w, e: e} },
		"CheckMap":     func() result { return ofError(gait.CheckMap(a.problem.Map)) },
		"CheckWalker":  func() result { return ofError(gait.CheckWalker(a.problem.Walker)) },
		"CheckProblem": func() result { return ofError(gait.CheckProblem(a.problem)) },
		"Possible":     func() result { return ofBool(gait.Possible(a.problem, a.at), 0) },
		"Moves":        func() result { l, e := gait.Moves(a.problem, a.at); return result{moves: l, e: e} },
		"Find":         func() result { plan, e := gait.Find(a.problem); return result{plan: plan, e: e} },
		"Prove":        func() result { return ofBool(gait.Prove(a.problem, a.plan), 0) },
		"Unroll": func() result {
			m, e := gait.Unroll(a.problem.Map, a.by, a.copies)
			return result{holds: m, e: e}
		},
		"Return": func() result { m, v, e := gait.Return(a.p, a.l); return result{m: m, list: v, e: e} },
		"Fixed":  func() result { s, e := gait.Fixed(a.p, a.l); return result{more: stateText(s), e: e} },
		"Stable": func() result { return ofBool(gait.Stable(a.p, a.l)) },
		"Walk": func() result {
			l, e := gait.Walk(a.p, a.l, a.s, a.pushes)
			return result{states: l, e: e}
		},
		"Allowed": func() result { return ofPoly(gait.Allowed(a.p, a.l)) },
		"Basin": func() result {
			set, closed, e := gait.Basin(a.p, a.l, a.rounds)
			r := ofPoly(set, e)
			r.more += strconv.FormatBool(closed)
			return r
		},
		"ProveBasin": func() result { return ofBool(gait.ProveBasin(a.p, a.l, a.set), 0) },
	}
}

// zeros returns what calls with an error give, where that is not nothing.
func zeros() map[string]string {
	return map[string]string{
		"Duty":    result{more: "0"}.values(),
		"Fixed":   result{more: "[0 0]"}.values(),
		"Stable":  result{more: "false"}.values(),
		"Allowed": result{more: "0"}.values(),
		"Basin":   result{more: "0false"}.values(),
	}
}

// ordinary returns arguments with which all calls succeed.
func ordinary(s *source) arguments {
	a := arguments{problem: s.problem()}
	a.legs, a.w = a.problem.Walker.Legs, slices.Clone(a.problem.Word)
	a.leg = s.below(a.legs)
	a.at = gait.State{Holds: slices.Clone(a.problem.Start)}
	a.plan, _ = gait.Find(a.problem)
	a.by, a.copies = at("50 1"), 1+s.below(4)
	a.rhythm, a.set = s.steady()
	_, e := gait.Fixed(a.p, a.l)
	for e != api.OK {
		a.rhythm, a.set = s.steady()
		_, e = gait.Fixed(a.p, a.l)
	}
	a.s, a.pushes, a.rounds = s.inside(a.set), s.pushes(a.p, 1+s.below(5)), s.below(api.MaxRounds+1)
	return a
}

// marker gives numbers no two of which are the same.
type marker int64

func (m *marker) next() exact.Q { *m++; return exact.Int(int64(*m)) }

func (m *marker) int() int { *m++; return int(*m) }

// scribble writes into all memory of a result, everywhere something else.
func (r result) scribble() {
	m := marker(5000)
	places := func(l []gait.State) {
		for i := range l {
			l[i].Phase = m.int()
			for k := range l[i].Holds {
				l[i].Holds[k] = m.int()
			}
		}
	}
	write := func(l []exact.Q) {
		for i := range l {
			l[i] = m.next()
		}
	}
	for i := range r.ints {
		r.ints[i] = m.int()
	}
	for i := range r.word {
		r.word[i] = uint8(100 + i)
	}
	for i := range r.holds {
		r.holds[i].Cost = m.next()
	}
	for i := range r.moves {
		r.moves[i].Cost = m.next()
		places([]gait.State{r.moves[i].To})
	}
	places(r.plan.Way)
	for i := range r.plan.Marks {
		r.plan.Marks[i].Value = m.next()
		places([]gait.State{r.plan.Marks[i].State})
	}
	for _, row := range r.m {
		write(row)
	}
	write(r.list)
	for i := range r.states {
		r.states[i] = balance.State{X: m.next(), V: m.next()}
	}
	for i := range r.rows {
		write(r.rows[i].A)
		r.rows[i].B = m.next()
	}
}

// isDistinct reports whether no two numbers of a result are at one place of the
// memory: each has another value after scribble.
func (r result) isDistinct() bool {
	all := slices.Clone(r.list)
	add := func(l ...int) {
		for _, n := range l {
			all = append(all, exact.Int(int64(n)))
		}
	}
	add(r.ints...)
	for _, h := range r.holds {
		all = append(all, h.Cost)
	}
	for _, m := range r.moves {
		all = append(all, m.Cost)
		add(m.To.Holds...)
	}
	for _, s := range r.plan.Way {
		add(append([]int{s.Phase}, s.Holds...)...)
	}
	for _, m := range r.plan.Marks {
		all = append(all, m.Value)
		add(m.State.Holds...)
	}
	for _, row := range r.m {
		all = append(all, row...)
	}
	for _, s := range r.states {
		all = append(all, s.X, s.V)
	}
	for _, row := range r.rows {
		all = append(append(all, row.A...), row.B)
	}
	seen := map[string]bool{}
	for _, q := range all {
		if seen[q.Text()] {
			return false
		}
		seen[q.Text()] = true
	}
	return true
}

// grow appends to all lists of a result, whose room may belong to others.
func (r result) grow() {
	_ = append(r.ints, 777, 778, 779)
	_ = append(r.word, 77, 78, 79)
	_ = append(r.holds, holds("777, 778, 779")...)
	_ = append(r.moves, gait.Move{Cost: num("777")})
	_ = append(r.plan.Way, gait.State{Phase: 777})
	_ = append(r.plan.Marks, gait.Mark{Value: num("777")})
	for _, m := range r.moves {
		_ = append(m.To.Holds, 777, 778, 779)
	}
	for _, s := range r.plan.Way {
		_ = append(s.Holds, 777, 778, 779)
	}
	for _, m := range r.plan.Marks {
		_ = append(m.State.Holds, 777, 778, 779)
	}
	_ = append(r.m, nums("777 778"))
	for _, row := range r.m {
		_ = append(row, nums("777 778 779")...)
	}
	_ = append(r.list, nums("777 778 779")...)
	_ = append(r.states, state("777 778"))
	for _, row := range r.rows {
		_ = append(row.A, nums("777 778 779")...)
	}
	_ = append(r.rows, hull.Row{B: num("777")})
}

// R4 and P2: a result shares no memory with an argument, with another result,
// or with another part of its own; the same call gives the same.
func TestMemory(t *testing.T) {
	s := source(860)
	for range 20 {
		a := ordinary(&s)
		before := a.all()
		for name, call := range calls(a) {
			first, second := call(), call()
			expectError(t, name, first.e, api.OK)
			want := second.all()
			expect(t, name+" again", first.all(), want)
			first.grow()
			expect(t, name+": the result after its lists have grown", first.all(), want)
			first.scribble()
			expect(t, name+": another result", second.all(), want)
			expect(t, name+": the arguments", a.all(), before)
			if !first.isDistinct() {
				t.Error(name, "gives the same memory twice in one result")
			}
		}
	}
}

// roomy returns a list with room behind it, which holds other elements, and a
// function that reports whether they are still there.
func roomy[T any](l []T, isKept func(T) bool, other T) ([]T, func() bool) {
	long := append(append([]T{}, l...), other, other, other)
	return long[:len(l)], func() bool { return !slices.ContainsFunc(long[len(l):], func(x T) bool { return !isKept(x) }) }
}

// R4: what lies behind the lists of arguments belongs to others.
func TestRoomBehindArguments(t *testing.T) {
	s := source(861)
	number := num("888")
	isNumber := func(q exact.Q) bool { return q.Cmp(number) == 0 }
	isCount := func(n int) bool { return n == 888 }
	for range 10 {
		a := ordinary(&s)
		var checks []func() bool
		var check func() bool
		add := func() { checks = append(checks, check) }
		for _, w := range []*gait.Word{&a.w, &a.problem.Word} {
			*w, check = roomy(*w, func(phase uint8) bool { return phase == 88 }, 88)
			add()
		}
		lists := []*[]int{&a.problem.Start, &a.problem.Goal, &a.at.Holds}
		for i := range a.plan.Way {
			lists = append(lists, &a.plan.Way[i].Holds)
		}
		for i := range a.plan.Marks {
			lists = append(lists, &a.plan.Marks[i].State.Holds)
		}
		for _, l := range lists {
			*l, check = roomy(*l, isCount, 888)
			add()
		}
		a.problem.Map, check = roomy(a.problem.Map, func(h gait.Hold) bool { return isNumber(h.Cost) }, gait.Hold{Cost: number})
		add()
		a.plan.Way, check = roomy(a.plan.Way, func(s gait.State) bool { return isCount(s.Phase) }, gait.State{Phase: 888})
		add()
		a.plan.Marks, check = roomy(a.plan.Marks, func(m gait.Mark) bool { return isNumber(m.Value) }, gait.Mark{Value: number})
		add()
		a.pushes, check = roomy(a.pushes, isNumber, number)
		add()
		a.set.Rows, check = roomy(a.set.Rows, func(r hull.Row) bool { return isNumber(r.B) }, hull.Row{B: number})
		add()
		for name, call := range calls(a) {
			call().grow()
			for _, isKept := range checks {
				if !isKept() {
					t.Error(name, "writes behind its arguments")
				}
			}
		}
	}
}

// P2: calls that run at the same time do not disturb each other.
func TestAtTheSameTime(t *testing.T) {
	s := source(862)
	a := ordinary(&s)
	all := calls(a)
	want := map[string]string{}
	for name, call := range all {
		want[name] = call().all()
	}
	names := slices.Sorted(maps.Keys(all))
	var wait sync.WaitGroup
	for i := range 8 {
		wait.Go(func() {
			for k := range names {
				name := names[(k+3*i)%len(names)]
				if all[name]().all() != want[name] {
					t.Error(name, "gives something else at the same time as other calls")
				}
			}
		})
	}
	wait.Wait()
}

// R3: a nil list and an empty list are the same.
func TestNilAndEmpty(t *testing.T) {
	first := arguments{legs: 2, w: word("3 1"), problem: example(), at: place("0 0 1"), by: at("9 0"), copies: 2, set: square("1/50")}
	first.rhythm = rhythm{third("0"), law("0 1/2 1/2 0 0 0")}
	first.problem.Goal, first.plan = nil, gait.Plan{}
	second := first
	second.problem.Goal, second.pushes = []int{}, []exact.Q{}
	second.plan = gait.Plan{Way: []gait.State{}, Marks: []gait.Mark{}}
	others := calls(second)
	for name, call := range calls(first) {
		expect(t, name+" of empty lists", others[name]().all(), call().all())
	}
	missing := example()
	missing.Map, missing.Walker.Long = holds("0, 1, 3"), num("1")
	a, _ := gait.Find(missing)
	a.Way = []gait.State{}
	expectBool(t, "Prove with an empty way", gait.Prove(missing, a), true)
	empty := arguments{
		w: gait.Word{}, problem: gait.Problem{Map: []gait.Hold{}, Word: gait.Word{}, Start: []int{}, Goal: []int{}},
		at: gait.State{Holds: []int{}}, set: hull.Poly{Rows: []hull.Row{}}, plan: second.plan, pushes: second.pushes,
	}
	others = calls(empty)
	for name, call := range calls(arguments{}) {
		expect(t, name+" of nothing", others[name]().all(), call().all())
	}
}

// oddCount returns an integer, often one that is no number of legs.
func (s *source) oddCount() int {
	odd := []int{math.MinInt, -1, 0, 1, 2, 2, 2, 3, 3, 3, 4, 4, 5, 8, 9, 64, 1 << 32, math.MaxInt}
	return odd[s.below(len(odd))]
}

// oddNumber returns a number, now and then 0 or a great one.
func (s *source) oddNumber() exact.Q {
	odd := []int64{math.MinInt64, -1000, -2, -1, 1, 2, 1 << 32, math.MaxInt64}
	n := odd[s.below(len(odd))]
	switch s.below(5) {
	case 0:
		return exact.Q{}
	case 1:
		q := exact.Int(n)
		for range s.below(3) {
			q = q.Mul(q)
		}
		return q
	case 2:
		q, _ := exact.Of(1, n)
		return q
	}
	return s.number()
}

// oddNumbers returns a list, often of the length n.
func (s *source) oddNumbers(n int) []exact.Q {
	if s.chance(6) {
		n = s.below(15)
	}
	l := make([]exact.Q, n)
	for i := range l {
		l[i] = s.oddNumber()
	}
	return l
}

// oddInts returns a list, often of the length n.
func (s *source) oddInts(n int) []int {
	if s.chance(6) {
		n = s.below(9)
	}
	l := make([]int, n)
	for i := range l {
		l[i] = s.oddCount()
	}
	return l
}

// oddProblem returns a problem in which some parts are strange.
func (s *source) oddProblem() gait.Problem {
	p := s.problem()
	for range s.below(3) {
		p = s.alter(p)
	}
	switch s.below(12) {
	case 0:
		p.Start = s.oddInts(p.Walker.Legs)
	case 1:
		p.Goal = s.oddInts(2)
	case 2:
		p.Walker.Legs = s.oddCount()
	case 3:
		p.Walker.Long, p.Walker.PerPhase, p.Target = s.oddNumber(), s.oddNumber(), s.oddNumber()
	case 4:
		p.Map = append(p.Map, gait.Hold{At: exact.Point{X: s.oddNumber(), Z: s.oddNumber()}, Cost: s.oddNumber()})
	case 5:
		p.Map, p.Word = p.Map[:s.below(len(p.Map))], p.Word[:s.below(len(p.Word))]
	}
	return p
}

// oddPlan returns a plan that seldom is one.
func (s *source) oddPlan(p gait.Problem) gait.Plan {
	a, e := gait.Find(p)
	if e == api.OK && s.chance(2) {
		_, a = s.alterPlan(p, a)
		return a
	}
	odd := func() gait.State { return gait.State{Phase: s.oddCount(), Holds: s.oddInts(2)} }
	for range s.below(4) {
		a.Way = append(a.Way, odd())
		a.Marks = append(a.Marks, gait.Mark{State: odd(), Value: s.oddNumber()})
	}
	a.Found, a.Cost = s.chance(2), s.oddNumber()
	return a
}

// oddRhythm returns a pendulum and a law in which some numbers are strange.
func (s *source) oddRhythm() rhythm {
	r, _ := s.steady()
	if s.chance(3) {
		r = rhythm{s.pendulum(), s.law()}
	}
	for _, q := range []*exact.Q{
		&r.p.Grow, &r.p.Heel, &r.p.Toe, &r.p.Near, &r.p.Far, &r.p.Short, &r.p.Long, &r.p.Push,
		&r.l.Pressure, &r.l.KX, &r.l.KV, &r.l.Step, &r.l.JX, &r.l.JV,
	} {
		if s.chance(20) {
			*q = s.oddNumber()
		}
	}
	if s.chance(6) {
		m, v := exact.Mat{nums("1 1/2"), nums("0 1/2")}, nums("0 0")
		if s.chance(2) {
			v[0] = num("1")
		}
		if balance.CheckPendulum(r.p) == api.OK {
			r.l = lawFor(r.p, m, v)
		}
	}
	return r
}

// strange returns any arguments.
func (s *source) strange() arguments {
	a := arguments{legs: s.oddCount(), leg: s.below(6) - 1, problem: s.oddProblem(), rounds: s.oddCount()}
	if a.w = s.closing(2+s.below(3), 2+s.below(6)); s.chance(2) {
		a.legs = 2 + s.below(3)
		a.w = s.word(a.legs, 0)
	}
	a.at = gait.State{Phase: s.below(6) - 1, Holds: s.oddInts(len(a.problem.Start))}
	if s.chance(2) {
		a.at = gait.State{Holds: slices.Clone(a.problem.Start)}
	}
	a.plan = s.oddPlan(a.problem)
	a.by, a.copies = exact.Point{X: s.oddNumber(), Z: s.oddNumber()}, s.oddCount()
	a.rhythm = s.oddRhythm()
	a.s, a.pushes = balance.State{X: s.oddNumber(), V: s.oddNumber()}, s.oddNumbers(s.below(4))
	a.set = hull.Poly{N: s.oddCount()}
	for range s.below(4) {
		a.set.Rows = append(a.set.Rows, hull.Row{A: s.oddNumbers(2), B: s.oddNumber()})
	}
	if set, _, e := gait.Basin(a.p, a.l, s.below(4)); e == api.OK && s.chance(2) {
		a.s, a.pushes, a.set = s.inside(set), s.pushes(a.p, s.below(3)), set
	}
	return a
}

// P1 and R2: no call panics, and with an error every other result is zero.
func TestStrangeArguments(t *testing.T) {
	s := source(863)
	failures, successes := map[string]int{}, map[string]int{}
	zero := zeros()
	for range 600 {
		a := s.strange()
		before := a.all()
		for name, call := range calls(a) {
			r := call()
			expect(t, name+": the arguments", a.all(), before)
			if r.e == api.OK {
				successes[name]++
				continue
			}
			failures[name]++
			want := zero[name]
			if want == "" {
				want = result{}.values()
			}
			expect(t, name+" with an error", r.values(), want)
		}
	}
	for name := range calls(s.strange()) {
		never := name == "Possible" || name == "Prove" || name == "ProveBasin"
		if successes[name] < 40 || failures[name] < 40 && !never {
			t.Error(name, "failed", failures[name], "times, and did not", successes[name], "times")
		}
	}
}

// P1: numbers of any size.
func TestGreatNumbers(t *testing.T) {
	great := num("1" + strings.Repeat("0", 300))
	small := over(num("1"), great)
	p := example()
	for i := range p.Map {
		p.Map[i].At = p.Map[i].At.Scale(great)
	}
	p.Walker.Long, p.Walker.Span, p.Target = num("2").Mul(great), great, num("2").Mul(great)
	p.Walker.PerPhase = small
	a, e := gait.Find(p)
	want := num("4").Mul(great).Add(num("8").Mul(small)) // two strides, eight phases
	expectOK(t, "Find of great strides", a.Cost.Text(), e, want.Text())
	expectBool(t, "Prove of great strides", gait.Prove(p, a), true)
	p.Walker.Long = p.Walker.Long.Sub(small)
	a, e = gait.Find(p)
	expectOK(t, "Find of strides that are a little too great", strconv.FormatBool(a.Found), e, "false")
	m, e := gait.Unroll(row(2), exact.Point{X: small}, 32)
	expectError(t, "Unroll by little", e, api.OK)
	expect(t, "Unroll by little", m[63].At.X.Text(), num("1").Add(num("31").Mul(small)).Text())

	r := rhythm{third("1/50"), law("0 1 1 0 0 0")}
	for _, q := range []*exact.Q{&r.p.Heel, &r.p.Toe, &r.p.Near, &r.p.Far, &r.p.Short, &r.p.Long, &r.p.Push} {
		*q = q.Mul(great)
	}
	for rounds := range 5 {
		few, _, _ := gait.Basin(third("1/50"), r.l, rounds)
		for i := range few.Rows {
			few.Rows[i].B = few.Rows[i].B.Mul(great)
		}
		set, _, e := gait.Basin(r.p, r.l, rounds)
		expectOK(t, "Basin of a great pendulum", polyText(set), e, polyText(few))
	}
	back, v := matrix("0 0 0 0 0 0")
	back[0][0] = num("1").Sub(small)
	is, e := gait.Stable(r.p, lawFor(r.p, back, v))
	expectOK(t, "Stable of what is just stable", strconv.FormatBool(is), e, "true")
	back[0][0] = num("1").Add(small)
	is, e = gait.Stable(r.p, lawFor(r.p, back, v))
	expectOK(t, "Stable of what is just not stable", strconv.FormatBool(is), e, "false")
	fixed, e := gait.Fixed(r.p, lawFor(r.p, back, nums("1 0")))
	expectOK(t, "Fixed far away", stateText(fixed), e, "[-"+great.Text()+" 0]")
}

// The chapter's examples, and the document's.
func TestExamples(t *testing.T) {
	w := word("3 1 3 2")
	events, e := gait.Events(2, w)
	expectOK(t, "Events of example 1", intsText(events), e, "[-2 2 -1 1]")
	duty, e := gait.Duty(2, w, 0)
	expectOK(t, "Duty of example 1", duty.Text(), e, "3/4")
	normal, e := gait.Normal(2, w)
	expectOK(t, "Normal of example 1", wordText(normal), e, "[1 3 2 3]")
	a, e := gait.Find(example())
	expectOK(t, "Find of example 2", strconv.FormatBool(a.Found)+" "+a.Cost.Text(), e, "true 12")
	expect(t, "the way of example 2", wayText(a.Way), "0[0 1] 1[0 1] 2[0 1] 3[0 1] 0[2 1] 1[2 1] 2[2 3] 3[2 3] 0[2 3]")
	missing := example()
	missing.Map, missing.Walker.Long = holds("0, 1, 3"), num("1")
	a, e = gait.Find(missing)
	expectOK(t, "Find of example 3", strconv.FormatBool(a.Found), e, "false")
	for _, m := range a.Marks {
		expectBool(t, "a mark of example 3 with the foothold at 3", slices.Contains(m.State.Holds, 2), false)
	}
	m, v, e := gait.Return(third("0"), law("0 1 1 0 0 0"))
	expectOK(t, "Return of example 4", matrixText(m)+numsText(v), e, "[1 1/2][0 1/2][0 0]")
}
