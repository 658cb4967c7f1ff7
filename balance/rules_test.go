package balance_test

import (
	"maps"
	"math"
	"slices"
	"strconv"
	"strings"
	"sync"
	"testing"

	"amble/api"
	"amble/balance"
	"amble/exact"
	"amble/hull"
	"amble/machine"
	"amble/pose"
)

// P1, P2 and the rules of the document that concern all calls of the layer.

// arguments are those of all calls; each call takes some of them.
type arguments struct {
	stance
	x, far  exact.Q // far: for Falls
	forces  []exact.Q
	m       machine.Machine
	p       pose.Pose
	g       pose.Ground
	walker  balance.Pendulum
	k       int
	s, lost balance.State // lost: for Refuse
	move    balance.Move
	pushes  []exact.Q
}

func (a arguments) all() string {
	text := ""
	for _, f := range a.m.Feet {
		text += numsText(flat(f.Points)) + f.Friction.Text()
	}
	return strings.Join([]string{
		a.text(), numsText(a.forces), numsText(a.p.Joints), numsText(flat(a.g)), pendulumText(a.walker),
		stateText(a.s), stateText(a.lost), moveText(a.move), numsText(a.pushes), text,
	}, "|")
}

// flat returns the coordinates of points.
func flat(l []exact.Point) []exact.Q {
	var all []exact.Q
	for _, p := range l {
		all = append(all, p.X, p.Z)
	}
	return all
}

// result is what a call gave: its memory, other values, and its error.
type result struct {
	list     []exact.Q
	rows     []hull.Row
	contacts []balance.Contact
	moves    []balance.Move
	more     string
	e        api.Errno
}

func (r result) values() string {
	return strings.Join([]string{numsText(r.list), polyText(hull.Poly{Rows: r.rows}), contactsText(r.contacts), movesText(r.moves), r.more}, "|")
}

func (r result) all() string { return r.values() + "|" + strconv.Itoa(int(r.e)) }

func ofPoly(p hull.Poly, e api.Errno) result {
	return result{rows: p.Rows, more: strconv.Itoa(p.N), e: e}
}

func ofList(l []exact.Q, e api.Errno) result { return result{list: l, e: e} }

func ofState(s balance.State, e api.Errno) result { return result{more: stateText(s), e: e} }

func ofPair(a, b exact.Q, e api.Errno) result { return result{more: pairText(a, b), e: e} }

func ofBool(is bool, e api.Errno) result { return result{more: strconv.FormatBool(is), e: e} }

// proof is what a call gives whose weights are not specified: of them only an
// error's are values.
func proof(weights []exact.Q, e api.Errno) result {
	if e == api.OK {
		return result{more: "weights"}
	}
	return ofList(weights, e)
}

// calls returns all calls of the layer with these arguments.
func calls(a arguments) map[string]func() result {
	return map[string]func() result{
		"Check":  func() result { return result{e: balance.Check(a.l, a.weight)} },
		"System": func() result { return ofPoly(balance.System(a.l, a.weight, a.x)) },
		"Force": func() result {
			text := ""
			for _, c := range a.l {
				text += pointText(balance.Force(c, a.x, a.far))
			}
			return result{more: text}
		},
		"Balanced": func() result { return ofBool(balance.Balanced(a.l, a.weight, a.x, a.forces), 0) },
		"Forces":   func() result { return ofList(balance.Forces(a.l, a.weight, a.x)) },
		"Falls":    func() result { return proof(balance.Falls(a.l, a.weight, a.far)) },
		"Support": func() result {
			low, high, below, above, e := balance.Support(a.l, a.weight)
			return result{more: supportText(low, high, below, above), e: e}
		},
		"Contacts":      func() result { l, e := balance.Contacts(a.m, a.p, a.g); return result{contacts: l, e: e} },
		"Stands":        func() result { return ofBool(balance.Stands(a.m, a.p, a.g)) },
		"CheckPendulum": func() result { return result{e: balance.CheckPendulum(a.walker)} },
		"Swing":         func() result { return ofState(balance.Swing(a.walker, a.s, a.x)) },
		"Next":          func() result { return ofState(balance.Next(a.walker, a.s, a.move)) },
		"Rest":          func() result { return ofPoly(balance.Rest(a.walker)) },
		"Ready":         func() result { return ofPoly(balance.Ready(a.walker, a.k)) },
		"Capture":       func() result { return ofPoly(balance.Capture(a.walker, a.k)) },
		"Choices":       func() result { return ofPoly(balance.Choices(a.walker, a.k, a.s)) },
		"Choose":        func() result { return ofPair(balance.Choose(a.walker, a.k, a.s)) },
		"Refuse":        func() result { return proof(balance.Refuse(a.walker, a.k, a.lost)) },
		"Pushes":        func() result { return ofPair(balance.Pushes(a.walker, a.k, a.s)) },
		"Stop": func() result {
			moves, s, e := balance.Stop(a.walker, a.k, a.s, a.pushes)
			return result{moves: moves, more: stateText(s), e: e}
		},
	}
}

// zeros returns what calls with an error give, where that is not nothing.
func zeros() map[string]string {
	poly := ofPoly(hull.Poly{}, 0).values()
	state := ofState(balance.State{}, 0).values()
	pair := ofPair(exact.Q{}, exact.Q{}, 0).values()
	return map[string]string{
		"System": poly, "Rest": poly, "Ready": poly, "Capture": poly, "Choices": poly,
		"Swing": state, "Next": state, "Stop": state, "Choose": pair, "Pushes": pair,
		"Support": result{more: "0 0 false false"}.values(),
		"Stands":  result{more: "false"}.values(),
	}
}

// ordinary returns arguments with which all calls succeed.
func ordinary(s *source) arguments {
	a := arguments{stance: s.bounded(4), k: 1 + s.below(api.MaxSteps), g: s.landscape()}
	low, high, _, _, _ := balance.Support(a.l, a.weight)
	a.x, a.far = s.between(low, high), high.Add(s.positive())
	a.forces, _ = balance.Forces(a.l, a.weight, a.x)
	a.m, a.p = s.settled(a.g, 1+s.below(3), "0 0 1")
	a.walker = s.handy(a.k)
	set, _ := balance.Capture(a.walker, a.k)
	a.s, a.pushes = s.inside(set), s.pushes(a.walker, a.k)
	pressure, step, _ := balance.Choose(a.walker, a.k, pushed(a.s, a.pushes[0]))
	a.move = balance.Move{Push: a.pushes[0], Pressure: pressure, Step: step}
	a.lost = balance.State{X: a.walker.Far, V: num("100")}
	return a
}

// scribble writes into all memory of a result, everywhere something else.
func (r result) scribble() {
	n := int64(5000)
	next := func() exact.Q { n++; return exact.Int(n) }
	write := func(l []exact.Q) {
		for i := range l {
			l[i] = next()
		}
	}
	write(r.list)
	for i := range r.rows {
		write(r.rows[i].A)
		r.rows[i].B = next()
	}
	for i := range r.contacts {
		r.contacts[i] = balance.Contact{Most: next()}
	}
	for i := range r.moves {
		r.moves[i] = balance.Move{Push: next()}
	}
}

// isDistinct reports whether no two numbers of a result are at one place of the
// memory: each has another value after scribble.
func (r result) isDistinct() bool {
	all := r.list
	for _, row := range r.rows {
		all = append(append(all, row.A...), row.B)
	}
	for _, c := range r.contacts {
		all = append(all, c.Most)
	}
	for _, m := range r.moves {
		all = append(all, m.Push)
	}
	seen := map[string]bool{}
	for _, q := range all {
		if seen[q.Text()] {
			return false
		}
		seen[q.Text()] = true
	}
	return true
}

// grow appends to all lists of a result, whose room may belong to others.
func (r result) grow() {
	_ = append(r.list, nums("777 778 779")...)
	for _, row := range r.rows {
		_ = append(row.A, nums("777 778 779")...)
	}
	_ = append(r.rows, hull.Row{B: num("777")})
	_ = append(r.contacts, balance.Contact{Most: num("777")})
	_ = append(r.moves, move("777 778 779"))
}

// R4 and P2: a result shares no memory with an argument, with another result,
// or with another part of its own; the same call gives the same.
func TestMemory(t *testing.T) {
	s := source(760)
	for range 20 {
		a := ordinary(&s)
		before := a.all()
		for name, call := range calls(a) {
			first, second := call(), call()
			expectError(t, name, first.e, api.OK)
			want := second.all()
			expect(t, name+" again", first.all(), want)
			first.grow()
			expect(t, name+": the result after its lists have grown", first.all(), want)
			first.scribble()
			expect(t, name+": another result", second.all(), want)
			expect(t, name+": the arguments", a.all(), before)
			if !first.isDistinct() {
				t.Error(name, "gives the same memory twice in one result")
			}
		}
		for name, prove := range map[string]func() ([]exact.Q, hull.Poly){
			"Falls": func() ([]exact.Q, hull.Poly) {
				weights, _ := balance.Falls(a.l, a.weight, a.far)
				return weights, system(a.l, a.weight, a.far)
			},
			"Refuse": func() ([]exact.Q, hull.Poly) {
				weights, _ := balance.Refuse(a.walker, a.k, a.lost)
				return weights, choices(a.walker, a.k, a.lost)
			},
		} {
			weights, p := prove()
			expectBool(t, name+" shows it", isVoidBy(p, weights), true)
			ofList(weights, 0).grow()
			ofList(weights, 0).scribble()
			expect(t, name+": the arguments", a.all(), before)
			weights, _ = prove()
			expectBool(t, name+" shows it again", isVoidBy(p, weights), true)
		}
	}
}

// roomy returns a list with room behind it, which holds other elements, and a
// function that reports whether they are still there.
func roomy[T any](l []T, isKept func(T) bool, other T) ([]T, func() bool) {
	long := append(append([]T{}, l...), other, other, other)
	return long[:len(l)], func() bool { return !slices.ContainsFunc(long[len(l):], func(x T) bool { return !isKept(x) }) }
}

// R4: what lies behind the lists of arguments belongs to others.
func TestRoomBehindArguments(t *testing.T) {
	s := source(761)
	number := num("888")
	far := exact.Point{X: number, Z: number}
	isNumber := func(q exact.Q) bool { return q.Cmp(number) == 0 }
	isFar := func(p exact.Point) bool { return isNumber(p.X) && isNumber(p.Z) }
	for range 10 {
		a := ordinary(&s)
		var checks []func() bool
		var check func() bool
		add := func() { checks = append(checks, check) }
		a.l, check = roomy(a.l, func(c balance.Contact) bool { return isNumber(c.Most) }, balance.Contact{Most: number})
		add()
		for _, l := range []*[]exact.Q{&a.forces, &a.p.Joints, &a.pushes} {
			*l, check = roomy(*l, isNumber, number)
			add()
		}
		a.g, check = roomy(a.g, isFar, far)
		add()
		a.m.Feet, check = roomy(a.m.Feet, func(f machine.Foot) bool { return isNumber(f.Friction) }, machine.Foot{Friction: number})
		add()
		for i := range a.m.Feet {
			a.m.Feet[i].Points, check = roomy(a.m.Feet[i].Points, isFar, far)
			add()
		}
		for name, call := range calls(a) {
			call().grow()
			for _, isKept := range checks {
				if !isKept() {
					t.Error(name, "writes behind its arguments")
				}
			}
		}
	}
}

// P2: calls that run at the same time do not disturb each other.
func TestAtTheSameTime(t *testing.T) {
	s := source(762)
	a := ordinary(&s)
	all := calls(a)
	want := map[string]string{}
	for name, call := range all {
		want[name] = call().all()
	}
	names := slices.Sorted(maps.Keys(all))
	var wait sync.WaitGroup
	for i := range 8 {
		wait.Go(func() {
			for k := range names {
				name := names[(k+3*i)%len(names)]
				if all[name]().all() != want[name] {
					t.Error(name, "gives something else at the same time as other calls")
				}
			}
		})
	}
	wait.Wait()
}

// R3: a nil list and an empty list are the same.
func TestNilAndEmpty(t *testing.T) {
	first := arguments{stance: stance{weight: num("1")}, m: table(), g: level(), walker: third("0")}
	second := first
	second.l, second.forces, second.pushes, second.p.Joints = []balance.Contact{}, []exact.Q{}, []exact.Q{}, []exact.Q{}
	second.m.Feet, second.m.Springs, second.m.Tendons, second.m.Motors = []machine.Foot{}, []machine.Spring{}, []machine.Tendon{}, []machine.Motor{}
	others := calls(second)
	for name, call := range calls(first) {
		expect(t, name+" of empty lists", others[name]().all(), call().all())
	}
	moves, last, e := balance.Stop(third("0"), 0, state("0 0"), nil)
	expectOK(t, "Stop without pushes", movesText(moves)+stateText(last), e, "[0 0]")
	empty := arguments{stance: stance{l: []balance.Contact{}}, m: machine.Machine{Bodies: []machine.Body{}}, g: pose.Ground{}}
	others = calls(empty)
	for name, call := range calls(arguments{}) {
		expect(t, name+" of nothing", others[name]().all(), call().all())
	}
}

// oddCount returns an integer, often one that is no number of steps.
func (s *source) oddCount() int {
	odd := []int{math.MinInt, -1, 0, 0, 1, 1, 1, 2, 2, 3, 4, 4, 5, 6, 1 << 32, math.MaxInt}
	return odd[s.below(len(odd))]
}

// oddNumber returns a number, now and then 0 or a great one.
func (s *source) oddNumber() exact.Q {
	odd := []int64{math.MinInt64, -1000, -2, -1, 1, 2, 1 << 32, math.MaxInt64}
	n := odd[s.below(len(odd))]
	switch s.below(5) {
	case 0:
		return exact.Q{}
	case 1:
		q := exact.Int(n)
		for range s.below(3) {
			q = q.Mul(q)
		}
		return q
	case 2:
		q, _ := exact.Of(1, n)
		return q
	}
	return s.number()
}

// oddNumbers returns a list, often of the length n.
func (s *source) oddNumbers(n int) []exact.Q {
	if s.below(6) == 0 {
		n = s.below(15)
	}
	l := make([]exact.Q, n)
	for i := range l {
		l[i] = s.oddNumber()
	}
	return l
}

func (s *source) oddPoint() exact.Point { return exact.Point{X: s.oddNumber(), Z: s.oddNumber()} }

func (s *source) oddState() balance.State {
	return balance.State{X: s.oddNumber(), V: s.oddNumber()}
}

// oddPendulum returns a pendulum with other numbers, now and then a valid one.
func (s *source) oddPendulum() balance.Pendulum {
	p := s.pendulum()
	for _, q := range []*exact.Q{&p.Grow, &p.Heel, &p.Toe, &p.Near, &p.Far, &p.Short, &p.Long, &p.Push} {
		if s.below(16) == 0 {
			*q = s.oddNumber()
		}
	}
	return p
}

// oddMachine returns a machine and a pose that do not always fit.
func (s *source) oddMachine(g pose.Ground) (machine.Machine, pose.Pose) {
	if s.below(8) == 0 {
		return machine.Machine{}, pose.Pose{Joints: s.oddNumbers(1)}
	}
	m, p := s.settled(g, s.below(8), []string{"0 1", "0", "0 0 0 0 -1"}[s.below(3)])
	switch s.below(12) {
	case 0:
		p.Joints = s.oddNumbers(1)
	case 1:
		m.Bodies[0].Mass = s.oddNumber()
	case 2:
		m.Bodies[1].Parent = s.oddCount()
	case 3:
		p.At = s.oddPoint()
	case 4:
		m.Feet = append(m.Feet, machine.Foot{Body: s.oddCount(), Points: []exact.Point{s.oddPoint()}, Friction: s.oddNumber()})
	}
	return m, p
}

// strange returns any arguments.
func (s *source) strange() arguments {
	a := arguments{stance: s.stance(api.MaxContacts), walker: s.oddPendulum(), k: s.oddCount(), g: s.landscape()}
	for range s.below(4) {
		if s.below(8) == 0 {
			a.l = append(a.l, balance.Contact{At: s.oddPoint(), Ground: s.oddPoint(), Friction: s.oddNumber(), Most: s.oddNumber()})
		}
	}
	if s.below(6) == 0 {
		a.weight = s.oddNumber()
	}
	a.x, a.far, a.forces = s.oddNumber(), s.oddNumber(), s.oddNumbers(2*len(a.l))
	if low, _, _, _, e := balance.Support(a.l, a.weight); e == api.OK && s.below(2) == 0 {
		a.x = low
	}
	a.m, a.p = s.oddMachine(a.g)
	if s.below(8) == 0 {
		a.g = pose.Ground{s.oddPoint(), s.oddPoint()}
	}
	a.s, a.lost = s.oddState(), s.oddState()
	a.move = balance.Move{Push: s.oddNumber(), Pressure: s.oddNumber(), Step: s.oddNumber()}
	a.pushes = s.oddNumbers(min(max(a.k, 0), 6))
	if set, e := balance.Capture(a.walker, a.k); e == api.OK && !isVoid(set) && s.below(2) == 0 {
		a.s, a.pushes = s.inside(set), s.pushes(a.walker, a.k)
		a.move = balance.Move{Pressure: s.between(a.walker.Heel, a.walker.Toe), Step: a.walker.Short}
	}
	return a
}

// P1 and R2: no call panics, and with an error every other result is zero.
func TestStrangeArguments(t *testing.T) {
	s := source(763)
	failures, successes := map[string]int{}, map[string]int{}
	zero := zeros()
	for range 400 {
		a := s.strange()
		before := a.all()
		for name, call := range calls(a) {
			r := call()
			expect(t, name+": the arguments", a.all(), before)
			if r.e == api.OK {
				successes[name]++
				continue
			}
			failures[name]++
			want := zero[name]
			if want == "" {
				want = result{}.values()
			}
			expect(t, name+" with an error", r.values(), want)
		}
	}
	for name := range calls(s.strange()) {
		never := name == "Force" || name == "Balanced"
		if successes[name] < 40 || failures[name] < 40 && !never {
			t.Error(name, "failed", failures[name], "times, and did not", successes[name], "times")
		}
	}
}

// P1: numbers of any size.
func TestGreatNumbers(t *testing.T) {
	great := num("1" + strings.Repeat("0", 300))
	small := over(num("1"), great)
	l := feet()
	for i := range l {
		l[i].At = l[i].At.Scale(great)
		l[i].Ground = l[i].Ground.Scale(small)
	}
	low, high, below, above, e := balance.Support(l, small)
	expectOK(t, "Support of feet far apart", supportText(low, high, below, above), e, "0 "+great.Text()+" true true")
	forces, e := balance.Forces(l, great, over(great, num("4")))
	square := great.Mul(great)
	var want []exact.Q
	for _, part := range nums("3/4 -1/8 1/4 1/8") {
		want = append(want, part.Mul(square))
	}
	expectOK(t, "Forces of feet far apart", numsText(forces), e, numsText(want))
	p := times(third("1/20"), great)
	for k := range api.MaxSteps + 1 {
		small, e := balance.Capture(third("1/20"), k)
		expectError(t, "Capture", e, api.OK)
		for i := range small.Rows {
			small.Rows[i].B = small.Rows[i].B.Mul(great)
		}
		set, e := balance.Capture(p, k)
		expectOK(t, "Capture of a great pendulum", polyText(set), e, polyText(small))
	}
	p.Grow = num("1").Sub(small)
	s, e := balance.Swing(p, balance.State{X: great, V: great.Neg()}, exact.Q{})
	expectError(t, "Swing of what grows fast", e, api.OK)
	// c - s is Grow's small difference to 1 over that to 2.
	decayed := over(num("1"), num("2").Sub(small))
	expect(t, "Swing of what grows fast", stateText(s), numsText([]exact.Q{decayed, decayed.Neg()}))
}

// The chapter's examples, and the document's.
func TestExamples(t *testing.T) {
	low, high, below, above, e := balance.Support(feet(), num("10"))
	expectOK(t, "Support of example 1", supportText(low, high, below, above), e, "0 1 true true")
	forces, e := balance.Forces(feet(), num("10"), num("1/4"))
	expectOK(t, "Forces of example 1", numsText(forces), e, "[15/2 -5/4 5/2 5/4]")
	one := contacts("0 0 1 0 0 0")
	low, high, below, above, e = balance.Support(one, num("10"))
	expectOK(t, "Support of example 2", supportText(low, high, below, above), e, "0 0 true true")
	weights, e := balance.Falls(one, num("10"), num("1"))
	expectError(t, "Falls of example 2", e, api.OK)
	expectBool(t, "Falls of example 2 shows it", isVoidBy(system(one, num("10"), num("1")), weights), true)
	s, e := balance.Swing(third("0"), state("0 2/5"), exact.Q{})
	expectOK(t, "Swing of example 3", stateText(s), e, "[3/10 1/2]")
	pressure, step, e := balance.Choose(third("0"), 1, state("0 3/10"))
	expectOK(t, "Choose of example 3", pairText(pressure, step), e, "0 1/2")
	_, _, e = balance.Choose(third("0"), 1, state("0 2/5"))
	expectError(t, "Choose of example 3", e, api.ErrVoid)
}
