package motion_test

import (
	"maps"
	"math"
	"slices"
	"strconv"
	"strings"
	"sync"
	"testing"

	"amble/api"
	"amble/contact"
	"amble/exact"
	"amble/machine"
	"amble/motion"
	"amble/pose"
)

// P1, P2 and the rules of the document that concern all calls of the layer.

// arguments are those of all calls; each call takes some of them.
type arguments struct {
	w       motion.World
	s, t    motion.State
	p       pose.Pose
	speeds  []exact.Q
	torques []exact.Q
	run     [][]exact.Q
	k       int
}

func (a arguments) all() string {
	return strings.Join([]string{worldText(a.w), stateText(a.s), stateText(a.t), poseText(a.p), numsText(a.speeds), numsText(a.torques), matText(a.run)}, "|")
}

// result is what a call gave: its memory, other values, and its error.
type result struct {
	states  []motion.State
	reports []motion.Report
	touches []motion.Touch
	points  []exact.Point
	lists   [][]exact.Q
	more    string
	e       api.Errno
}

func (r result) values() string {
	text := ""
	for _, s := range r.states {
		text += stateText(s)
	}
	return strings.Join([]string{text, reportsText(r.reports), touchesText(r.touches), pointsText(r.points), matText(r.lists), r.more}, "|")
}

func (r result) all() string { return r.values() + "|" + strconv.Itoa(int(r.e)) }

// ofState is a result of one state.
func ofState(s motion.State, e api.Errno) result {
	return result{states: []motion.State{s}, e: e}
}

func ofSystem(s contact.System, touches []motion.Touch, e api.Errno) result {
	lists := slices.Concat([][]exact.Q{s.Problem.V, s.Problem.Mu, s.Free}, s.Problem.G, s.Lift)
	return result{lists: lists, touches: touches, more: s.Problem.E.Text(), e: e}
}

// calls returns all calls of the layer with these arguments.
func calls(a arguments) map[string]func() result {
	return map[string]func() result{
		"Check":   func() result { return result{e: motion.Check(a.w)} },
		"Start":   func() result { return ofState(motion.Start(a.w, a.p, a.speeds)) },
		"Fits":    func() result { return result{e: motion.Fits(a.w, a.s)} },
		"Touches": func() result { l, e := motion.Touches(a.w, a.s); return result{touches: l, e: e} },
		"Impact":  func() result { return ofSystem(motion.Impact(a.w, a.s, a.torques)) },
		"Step": func() result {
			s, r, e := motion.Step(a.w, a.s, a.torques)
			return result{states: []motion.State{s}, reports: []motion.Report{r}, e: e}
		},
		"Run": func() result {
			s, r, e := motion.Run(a.w, a.s, a.run, a.k)
			return result{states: []motion.State{s}, reports: r, e: e}
		},
		"Run of no steps": func() result {
			s, r, e := motion.Run(a.w, a.s, nil, a.k)
			return result{states: []motion.State{s}, reports: r, e: e}
		},
		"Energy": func() result {
			k, p, e := motion.Energy(a.w, a.s)
			return result{more: k.Text() + " " + p.Text(), e: e}
		},
		"Momentum": func() result {
			l, k, e := motion.Momentum(a.w, a.s)
			return result{more: pointText(l) + k.Text(), e: e}
		},
		"Drift": func() result { l, e := motion.Drift(a.w, a.s); return result{points: l, e: e} },
		"Pose": func() result {
			p, e := motion.Pose(a.w, a.s)
			return result{lists: [][]exact.Q{p.Joints}, more: pointText(p.At) + p.Turn.Text(), e: e}
		},
		"Round": func() result { return ofState(motion.Round(a.w, a.s, a.k)) },
		"Off":   func() result { q, e := motion.Off(a.w, a.s, a.t); return result{more: q.Text(), e: e} },
	}
}

// zeros returns what calls with an error give, where that is not nothing.
func zeros() map[string]string {
	state := ofState(motion.State{}, 0).values()
	return map[string]string{
		"Start": state, "Round": state, "Run": state, "Run of no steps": state,
		"Step":     result{states: make([]motion.State, 1), reports: make([]motion.Report, 1)}.values(),
		"Impact":   result{lists: make([][]exact.Q, 3), more: "0"}.values(),
		"Energy":   result{more: "0 0"}.values(),
		"Momentum": result{more: "(0 0)0"}.values(),
		"Pose":     result{lists: make([][]exact.Q, 1), more: "(0 0)0"}.values(),
		"Off":      result{more: "0"}.values(),
	}
}

// ordinary returns arguments with which all calls succeed.
func ordinary(s *source) arguments {
	for {
		m := s.moment(3, s.below(4))
		a := arguments{w: m.w, s: m.s, t: s.state(m.w), p: s.pose(m.w.Machine), speeds: s.numbers(len(m.w.Machine.Bodies) + 2), torques: m.torques, k: s.below(30)}
		a.run = [][]exact.Q{m.torques, s.torques(m.w)}
		_, _, e := motion.Run(a.w, a.s, a.run, a.k)
		if _, f := motion.Pose(a.w, a.s); e == api.OK && f == api.OK {
			return a
		}
	}
}

// scribble writes into all memory of a result, everywhere something else.
func (r result) scribble() {
	n := int64(5000)
	next := func() exact.Q { n++; return exact.Int(n) }
	write := func(lists ...[]exact.Q) {
		for _, l := range lists {
			for i := range l {
				l[i] = next()
			}
		}
	}
	draw := func(l []exact.Point) {
		for i := range l {
			l[i] = exact.Point{X: next(), Z: next()}
		}
	}
	touch := func(l []motion.Touch) {
		for i := range l {
			l[i] = motion.Touch{Point: exact.Point{X: next(), Z: next()}}
		}
	}
	for _, s := range r.states {
		draw(s.At)
		for i := range s.Rot {
			s.Rot[i] = exact.Rot{C: next(), S: next()}
		}
		write(s.Speed, s.Heat)
	}
	for i := range r.reports {
		report := &r.reports[i]
		touch(report.Touches)
		write(report.P)
		draw(report.Blows)
		for k := range report.Word {
			report.Word[k] = uint8(100 + k)
		}
		for k := range report.Hot {
			report.Hot[k] = 6000 + k
		}
	}
	touch(r.touches)
	draw(r.points)
	write(r.lists...)
}

// numbers returns all numbers that scribble has written.
func (r result) numbers() []exact.Q {
	all := slices.Concat(r.lists...)
	draw := func(l []exact.Point) {
		for _, p := range l {
			all = append(all, p.X, p.Z)
		}
	}
	touch := func(l []motion.Touch) {
		for _, touch := range l {
			all = append(all, touch.Point.X, touch.Point.Z)
		}
	}
	for _, s := range r.states {
		draw(s.At)
		for _, turned := range s.Rot {
			all = append(all, turned.C, turned.S)
		}
		all = append(append(all, s.Speed...), s.Heat...)
	}
	for _, report := range r.reports {
		touch(report.Touches)
		all = append(all, report.P...)
		draw(report.Blows)
	}
	touch(r.touches)
	draw(r.points)
	return all
}

// isDistinct reports whether no two numbers of a result are at one place of
// the memory: each has another value after scribble.
func (r result) isDistinct() bool {
	seen := map[string]bool{}
	for _, q := range r.numbers() {
		if seen[q.Text()] {
			return false
		}
		seen[q.Text()] = true
	}
	return true
}

// grow appends to all lists of a result, whose room may belong to others.
func (r result) grow() {
	more, turned := nums("777 778 779"), []exact.Rot{rot("777 778"), rot("779 780")}
	far := points("777 778, 779 780")
	touches := []motion.Touch{{Kind: 77}, {Kind: 78}}
	for _, s := range r.states {
		_, _, _, _ = append(s.At, far...), append(s.Rot, turned...), append(s.Speed, more...), append(s.Heat, more...)
	}
	for _, x := range r.reports {
		_, _, _, _ = append(x.Touches, touches...), append(x.P, more...), append(x.Blows, far...), append(x.Hot, 777, 778)
		_ = append(x.Word, 77, 78, 79)
	}
	_, _ = append(r.touches, touches...), append(r.points, far...)
	for _, l := range r.lists {
		_ = append(l, more...)
	}
	_ = append(r.reports, motion.Report{Work: num("777")})
}

// R4 and P2: a result shares no memory with an argument, with another result,
// or with another part of its own; the same call gives the same.
func TestMemory(t *testing.T) {
	s := source(630)
	for range 25 {
		a := ordinary(&s)
		before := a.all()
		for name, call := range calls(a) {
			first, second := call(), call()
			expectError(t, name, first.e, api.OK)
			want := second.all()
			expect(t, name+" again", first.all(), want)
			first.grow()
			expect(t, name+": the result after its lists have grown", first.all(), want)
			first.scribble()
			expect(t, name+": another result", second.all(), want)
			expect(t, name+": the arguments", a.all(), before)
			if !first.isDistinct() {
				t.Error(name, "gives the same memory twice in one result")
			}
		}
	}
}

// roomy returns a list with room behind it, which holds other elements, and a
// function that reports whether they are still there.
func roomy[T any](l []T, isKept func(T) bool, other T) ([]T, func() bool) {
	long := append(append([]T{}, l...), other, other, other)
	return long[:len(l)], func() bool { return !slices.ContainsFunc(long[len(l):], func(x T) bool { return !isKept(x) }) }
}

// R4: what lies behind the lists of arguments belongs to others.
func TestRoomBehindArguments(t *testing.T) {
	s := source(631)
	number := num("888")
	far := exact.Point{X: number, Z: number}
	isNumber := func(q exact.Q) bool { return q.Cmp(number) == 0 }
	isFar := func(p exact.Point) bool { return isNumber(p.X) && isNumber(p.Z) }
	isRot := func(r exact.Rot) bool { return isNumber(r.C) && isNumber(r.S) }
	isRow := func(l []exact.Q) bool { return len(l) == 1 && isNumber(l[0]) }
	for range 15 {
		a := ordinary(&s)
		var checks []func() bool
		var check func() bool
		add := func() { checks = append(checks, check) }
		for _, l := range []*[]exact.Point{&a.s.At, &a.t.At, (*[]exact.Point)(&a.w.Ground)} {
			*l, check = roomy(*l, isFar, far)
			add()
		}
		for _, l := range []*[]exact.Rot{&a.s.Rot, &a.t.Rot} {
			*l, check = roomy(*l, isRot, exact.Rot{C: number, S: number})
			add()
		}
		for _, l := range []*[]exact.Q{&a.s.Speed, &a.s.Heat, &a.t.Speed, &a.t.Heat, &a.p.Joints, &a.speeds, &a.torques, &a.run[0], &a.run[1]} {
			*l, check = roomy(*l, isNumber, number)
			add()
		}
		a.run, check = roomy(a.run, isRow, []exact.Q{number})
		add()
		a.w.Machine.Bodies, check = roomy(a.w.Machine.Bodies, func(b machine.Body) bool { return b.Name == "room" }, machine.Body{Name: "room"})
		add()
		for i := range a.w.Machine.Feet {
			a.w.Machine.Feet[i].Points, check = roomy(a.w.Machine.Feet[i].Points, isFar, far)
			add()
		}
		for name, call := range calls(a) {
			call().grow()
			for _, isKept := range checks {
				if !isKept() {
					t.Error(name, "writes behind its arguments")
				}
			}
		}
	}
}

// P2: calls that run at the same time do not disturb each other.
func TestAtTheSameTime(t *testing.T) {
	s := source(632)
	a := ordinary(&s)
	all := calls(a)
	want := map[string]string{}
	for name, call := range all {
		want[name] = call().all()
	}
	names := slices.Sorted(maps.Keys(all))
	var wait sync.WaitGroup
	for i := range 8 {
		wait.Go(func() {
			for k := range names {
				name := names[(k+3*i)%len(names)]
				if all[name]().all() != want[name] {
					t.Error(name, "gives something else at the same time as other calls")
				}
			}
		})
	}
	wait.Wait()
}

// R3: a nil list and an empty list are the same.
func TestNilAndEmpty(t *testing.T) {
	w := changed(ball(), func(w *motion.World) { w.Machine.Feet = nil })
	s := above(t, w, "0 1", "1 2 3")
	first := arguments{w: w, s: s, t: s, speeds: nums("1 2 3"), run: [][]exact.Q{nil}}
	first.s.Heat, first.t.Heat = nil, nil
	second := first
	second.w = changed(w, func(w *motion.World) {
		w.Machine.Bodies[0].Shape = []exact.Point{}
		w.Machine.Springs, w.Machine.Tendons = []machine.Spring{}, []machine.Tendon{}
		w.Machine.Motors, w.Machine.Feet = []machine.Motor{}, []machine.Foot{}
	})
	second.s.Heat, second.t.Heat = []exact.Q{}, []exact.Q{}
	second.p.Joints, second.torques, second.run = []exact.Q{}, []exact.Q{}, [][]exact.Q{{}}
	others := calls(second)
	for name, call := range calls(first) {
		expect(t, name+" of empty lists", others[name]().all(), call().all())
		expectError(t, name+" of nil lists", call().e, api.OK)
	}
	empty := arguments{
		w: motion.World{Machine: machine.Machine{Bodies: []machine.Body{}}, Ground: pose.Ground{}},
		s: motion.State{At: []exact.Point{}, Rot: []exact.Rot{}, Speed: []exact.Q{}, Heat: []exact.Q{}},
	}
	others = calls(empty)
	for name, call := range calls(arguments{}) {
		expect(t, name+" of nothing", others[name]().all(), call().all())
		expectError(t, name+" of nothing", call().e, api.ErrName)
	}
	for _, torques := range [][][]exact.Q{nil, {}} {
		got, reports, e := motion.Run(first.w, first.s, torques, 5)
		expectOK(t, "Run of no steps", stateText(got)+reportsText(reports), e, stateText(first.s))
	}
}

// oddInt returns an integer, often one that is none of a list's.
func (s *source) oddInt() int {
	odd := []int{math.MinInt, math.MinInt + 1, -1000, -2, -1, 0, 1, 2, 3, 11, 12, 63, 64, 65, 1 << 32, math.MaxInt - 1, math.MaxInt}
	return odd[s.below(len(odd))]
}

// oddNumber returns a number, now and then 0 or a great one.
func (s *source) oddNumber() exact.Q {
	switch s.below(5) {
	case 0:
		return exact.Q{}
	case 1:
		q := exact.Int(int64(s.oddInt()))
		for range s.below(3) {
			q = q.Mul(q)
		}
		return q
	case 2:
		q, _ := exact.Of(1, int64(s.oddInt()))
		return q
	}
	return s.number()
}

func (s *source) oddPoint() exact.Point { return exact.Point{X: s.oddNumber(), Z: s.oddNumber()} }

// oddNumbers returns a list, often of the length n.
func (s *source) oddNumbers(n int) []exact.Q {
	if s.below(6) == 0 {
		n = s.below(12)
	}
	l := make([]exact.Q, n)
	for i := range l {
		l[i] = s.oddNumber()
	}
	return l
}

// spoil changes something of a world.
func (s *source) spoil(w *motion.World) {
	m := &w.Machine
	switch s.below(8) {
	case 0:
		m.Name = ""
	case 1:
		m.Bodies = append(m.Bodies, machine.Body{Name: "more", Parent: s.oddInt(), At: s.oddPoint(), Mass: s.oddNumber(), Inertia: s.oddNumber()})
	case 2:
		m.Tendons = append(m.Tendons, machine.Tendon{A: s.oddInt(), B: s.oddInt(), From: s.oddPoint(), Length: s.oddNumber()})
	case 3:
		m.Feet = append(m.Feet, machine.Foot{Body: s.oddInt(), Points: []exact.Point{s.oddPoint()}, Friction: s.oddNumber()})
	case 4:
		m.Motors = append(m.Motors, machine.Motor{Body: s.oddInt(), Torque: s.oddNumber(), Most: s.oddNumber()})
	case 5:
		w.Ground = append(w.Ground, s.oddPoint())
	case 6:
		w.Gravity, w.Step, w.E = s.oddNumber(), s.oddNumber(), s.oddNumber()
	case 7:
		m.Springs = append(m.Springs, machine.Spring{A: s.oddInt(), B: s.oddInt(), To: s.oddPoint(), Stiff: s.oddNumber()})
	}
}

// twisted returns a state that is now and then changed.
func (s *source) twisted(state motion.State) motion.State {
	state = copyOf(state)
	switch s.below(12) {
	case 0:
		state.At[0] = s.oddPoint()
	case 1:
		state.Rot[0] = exact.Rot{C: s.oddNumber(), S: s.oddNumber()}
	case 2:
		state.Speed = s.oddNumbers(len(state.Speed))
	case 3:
		state.Heat = s.oddNumbers(len(state.Heat))
	case 4:
		state.At = append(state.At, s.oddPoint())
	case 5:
		state.Rot = state.Rot[1:]
	}
	return state
}

// strange returns any arguments.
func (s *source) strange() arguments {
	w := s.world(3)
	n := len(w.Machine.Bodies)
	a := arguments{w: w, s: s.twisted(s.state(w)), t: s.twisted(s.state(w)), p: s.pose(w.Machine), k: s.oddInt()}
	if s.below(2) == 0 {
		a.k = s.below(65)
	}
	if s.below(6) == 0 {
		a.p.Joints = s.oddNumbers(n - 1)
	}
	a.speeds, a.torques = s.oddNumbers(n+2), s.torques(w)
	if s.below(6) == 0 {
		a.torques = s.oddNumbers(len(a.torques))
	}
	for range s.below(3) {
		a.run = append(a.run, a.torques)
	}
	if s.below(12) == 0 {
		a.run = make([][]exact.Q, 60+s.below(10))
	}
	if s.below(4) == 0 {
		s.spoil(&a.w)
	}
	return a
}

// P1 and R2: no call panics, and with an error every other result is zero.
func TestStrangeArguments(t *testing.T) {
	s := source(633)
	failures, successes := map[string]int{}, map[string]int{}
	zero := zeros()
	for range 400 {
		a := s.strange()
		before := a.all()
		for name, call := range calls(a) {
			r := call()
			expect(t, name+": the arguments", a.all(), before)
			if r.e == api.OK {
				successes[name]++
				continue
			}
			failures[name]++
			want := zero[name]
			if want == "" {
				want = result{}.values()
			}
			expect(t, name+" with an error", r.values(), want)
		}
	}
	for name := range calls(s.strange()) {
		if failures[name] < 40 || successes[name] < 40 {
			t.Error(name, "failed", failures[name], "times, and did not", successes[name], "times")
		}
	}
}

// P1: numbers of any size.
func TestGreatNumbers(t *testing.T) {
	great := num("1" + strings.Repeat("0", 300))
	w := ball()
	w.Machine.Bodies[0].Mass = great
	s := above(t, w, "0 1", "1 -3 0")
	s.Speed[1] = great.Neg()
	next, r := stepped(t, "a heavy ball", w, s, nil)
	expect(t, "a heavy ball", stateText(next), "[(1/10 1)][1 0][1 0 0][]")
	expect(t, "the blow of a heavy ball", pointsText(r.Blows), pointsText([]exact.Point{{Z: great.Mul(great.Add(num("1")))}}))
	s.Heat, s.At[0].X = nil, great
	next, e := motion.Round(w, s, 64)
	expectOK(t, "Round of a far ball", pointsText(next.At), e, pointsText([]exact.Point{{X: great, Z: num("1")}}))
}

// The chapter's examples, and the document's.
func TestExamples(t *testing.T) {
	w := ball()
	s := above(t, w, "0 2", "1 0 0")
	next, r := stepped(t, "example 1", w, s, nil)
	expect(t, "example 1", pointsText(next.At)+numsText(next.Speed)+touchesText(r.Touches), "[(1/10 19/10)][1 -1 0]")
	expectEnergy(t, "example 1", w, s, "1", "40")
	s = above(t, w, "0 1", "1 -3 0")
	next, r = stepped(t, "example 2", w, s, nil)
	expect(t, "example 2", numsText(r.P)+pointsText(r.Blows)+numsText(next.Speed)+pointsText(next.At)+r.Work.Text(), "[2/5 0][(0 8)][1 0 0][(1/10 1)]-16")
	system, _, e := motion.Impact(w, s, nil)
	expectOK(t, "the rows of example 2", numsText(system.Problem.V), e, "[-80 20]")
	w.E = num("1/2")
	next, _ = stepped(t, "example 3", w, s, nil)
	expect(t, "example 3", numsText(next.Speed), "[1 2 0]")
	w = ball()
	s = above(t, w, "0 2", "1 0 0")
	expectMomentum(t, "example 4", w, s, "(2 0)", "-4")
	next, _ = stepped(t, "example 4", w, s, nil)
	expectMomentum(t, "example 4, after a step", w, next, "(2 -2)", "-4")
	w = walker()
	s = start(t, w, pose.Pose{At: at("0 4"), Joints: nums("0 0")}, "0 0 0 1 0")
	expect(t, "example 5", numsText(s.Speed[6:]), "[3 0 1]")
	next, r = stepped(t, "the document's example", ball(), above(t, ball(), "7 1", "0 -3 0"), nil)
	expect(t, "the document's example", pointsText(r.Blows)+numsText(next.Speed), "[(0 8)][0 0 0]")
}
