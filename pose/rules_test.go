package pose_test

import (
	"maps"
	"math"
	"slices"
	"strconv"
	"strings"
	"sync"
	"testing"

	"amble/api"
	"amble/exact"
	"amble/machine"
	"amble/pose"
)

// P1, P2 and the rules of the document that concern all calls of the layer.

// arguments are those of all calls; each call takes some of them.
type arguments struct {
	m          machine.Machine
	p          pose.Pose
	body       int
	at, target exact.Point
	bend       pose.Bend
	a, b       []exact.Point
	v          pose.Verdict
	g          pose.Ground
	x          exact.Q
}

func (a arguments) all() string {
	return machineText(a.m) + poseText(a.p) + bendsText([]pose.Bend{a.bend}) + listsText([][]exact.Point{a.a, a.b, a.g}) + verdictText(a.v)
}

// result is what a call gave: its memory, other values, and its error.
type result struct {
	lists   [][]exact.Point
	numbers [][]exact.Q
	ints    []int
	pairs   [][2]int
	frames  []pose.Frame
	bends   []pose.Bend
	more    string
	e       api.Errno
}

func (r result) values() string {
	return strings.Join([]string{listsText(r.lists), matText(r.numbers), intsText(r.ints), pairsText(r.pairs), framesText(r.frames), bendsText(r.bends), r.more}, "|")
}

func (r result) all() string { return r.values() + "|" + strconv.Itoa(int(r.e)) }

func ofPoint(p exact.Point, e api.Errno) result {
	return result{numbers: [][]exact.Q{{p.X, p.Z}}, e: e}
}

func ofMat(m exact.Mat, e api.Errno) result { return result{numbers: m, e: e} }

// zeros returns what calls with an error give, where that is not nothing.
func zeros() map[string]string {
	point := result{numbers: [][]exact.Q{make([]exact.Q, 2)}}.values()
	return map[string]string{
		"World": point, "Centre": point, "Along": point,
		"Reachable": result{more: "false"}.values(),
		"Bent":      result{more: surdText(exact.Surd{}) + surdText(exact.Surd{})}.values(),
		"Apart":     result{numbers: [][]exact.Q{nil}, more: "false"}.values(),
		"Height":    result{more: "0"}.values(),
	}
}

// calls returns all calls of the layer with these arguments. Which verdict
// Apart gives is not specified: of it only Common is a value, and the memory
// of the weights.
func calls(a arguments) map[string]func() result {
	return map[string]func() result{
		"Check":  func() result { return result{e: pose.Check(a.m, a.p)} },
		"Frames": func() result { l, e := pose.Frames(a.m, a.p); return result{frames: l, e: e} },
		"World":  func() result { return ofPoint(pose.World(a.m, a.p, a.body, a.at)) },
		"Shapes": func() result { l, e := pose.Shapes(a.m, a.p); return result{lists: l, e: e} },
		"Soles":  func() result { l, e := pose.Soles(a.m, a.p); return result{lists: l, e: e} },
		"Centre": func() result { return ofPoint(pose.Centre(a.m, a.p)) },
		"Beyond": func() result { l, e := pose.Beyond(a.m, a.p); return result{ints: l, e: e} },
		"Tight":  func() result { l, e := pose.Tight(a.m, a.p); return result{ints: l, e: e} },
		"Jacobian": func() result {
			return ofMat(pose.Jacobian(a.m, a.p, a.body, a.at))
		},
		"CentreJacobian": func() result { return ofMat(pose.CentreJacobian(a.m, a.p)) },
		"Bends": func() result {
			l, e := pose.Bends(a.m, a.p, a.body, a.at, a.target)
			return result{bends: l, e: e}
		},
		"Reachable": func() result {
			can, e := pose.Reachable(a.m, a.p, a.body, a.at, a.target)
			return result{more: strconv.FormatBool(can), e: e}
		},
		"Bent": func() result {
			x, z, e := pose.Bent(a.m, a.p, a.body, a.at, a.bend)
			return result{more: surdText(x) + surdText(z), e: e}
		},
		"Apart": func() result {
			v, e := pose.Apart(a.a, a.b)
			r := result{numbers: [][]exact.Q{v.Weights}, more: strconv.FormatBool(v.Common), e: e}
			if e == api.OK {
				r.numbers = nil
			}
			return r
		},
		"ProveApart": func() result { return result{more: strconv.FormatBool(pose.ProveApart(a.a, a.b, a.v))} },
		"Collisions": func() result { l, e := pose.Collisions(a.m, a.p); return result{pairs: l, e: e} },
		"CheckGround": func() result {
			return result{e: pose.CheckGround(a.g)}
		},
		"Height": func() result { q, e := pose.Height(a.g, a.x); return result{more: q.Text(), e: e} },
		"Along":  func() result { return ofPoint(pose.Along(a.g, a.x)) },
		"Gaps":   func() result { l, e := pose.Gaps(a.m, a.p, a.g); return result{numbers: l, e: e} },
		"Sunk":   func() result { l, e := pose.Sunk(a.m, a.p, a.g); return result{ints: l, e: e} },
	}
}

// ordinary returns arguments with which all calls succeed.
func ordinary(s *source) arguments {
	m, body := s.lengthened()
	a := arguments{m: m, p: s.pose(m), body: body, at: s.point(), a: s.points(1 + s.below(6)), b: s.points(1 + s.below(6)), g: s.ground(), x: s.number()}
	a.target, _ = pose.World(m, a.p, body, a.at)
	a.bend = pose.Bend{A: surd("1/2 1 3"), B: surd("-2 1/3 3")}
	a.v, _ = pose.Apart(a.a, a.b)
	return a
}

// scribble writes into all memory of a result, everywhere something else.
func (r result) scribble() {
	n := int64(5000)
	next := func() exact.Q { n++; return exact.Int(n) }
	for _, l := range r.lists {
		for i := range l {
			l[i] = exact.Point{X: next(), Z: next()}
		}
	}
	for _, l := range r.numbers {
		for i := range l {
			l[i] = next()
		}
	}
	for i := range r.ints {
		r.ints[i] = 6000 + i
	}
	for i := range r.pairs {
		r.pairs[i] = [2]int{7000 + i, 8000 + i}
	}
	for i := range r.frames {
		r.frames[i] = pose.Frame{At: exact.Point{X: next(), Z: next()}}
	}
	for i := range r.bends {
		r.bends[i] = pose.Bend{A: exact.Surd{A: next()}}
	}
}

// isDistinct reports whether no two numbers of a result are at one place of
// the memory: each has another value after scribble.
func (r result) isDistinct() bool {
	seen := map[string]bool{}
	for _, q := range append(slices.Concat(r.numbers...), coordinates(r.lists)...) {
		if seen[q.Text()] {
			return false
		}
		seen[q.Text()] = true
	}
	return true
}

func coordinates(lists [][]exact.Point) []exact.Q {
	var l []exact.Q
	for _, p := range slices.Concat(lists...) {
		l = append(l, p.X, p.Z)
	}
	return l
}

// grow appends to all lists of a result, whose room may belong to others.
func (r result) grow() {
	for _, l := range r.lists {
		_ = append(l, at("777 778"), at("779 780"))
	}
	for _, l := range r.numbers {
		_ = append(l, nums("777 778 779")...)
	}
	_ = append(r.lists, points("777 777"))
	_ = append(r.numbers, nums("777"))
	_ = append(r.ints, 777)
	_ = append(r.pairs, [2]int{777, 777})
	_ = append(r.frames, pose.Frame{At: at("777 777")})
	_ = append(r.bends, pose.Bend{A: surd("777")})
}

// R4 and P2: a result shares no memory with an argument, with another result,
// or with another part of its own; the same call gives the same.
func TestMemory(t *testing.T) {
	s := source(20)
	for range 30 {
		a := ordinary(&s)
		before := a.all()
		for name, call := range calls(a) {
			first, second := call(), call()
			if name != "Bends" && name != "Reachable" {
				expectError(t, name, first.e, api.OK)
			}
			want := second.all()
			expect(t, name+" again", first.all(), want)
			first.grow()
			expect(t, name+": the result after its lists have grown", first.all(), want)
			first.scribble()
			expect(t, name+": another result", second.all(), want)
			expect(t, name+": the arguments", a.all(), before)
			if !first.isDistinct() {
				t.Error(name, "gives the same memory twice in one result")
			}
		}
		v, _ := pose.Apart(a.a, a.b)
		_ = append(v.Weights, num("777"))
		for i := range v.Weights {
			v.Weights[i] = num("888")
		}
		expect(t, "Apart: the arguments", a.all(), before)
		apart(t, a.a, a.b)
	}
}

// roomy returns a list with room behind it, which holds other elements, and a
// function that reports whether they are still there.
func roomy[T any](l []T, isKept func(T) bool, other T) ([]T, func() bool) {
	long := append(append([]T{}, l...), other, other, other)
	return long[:len(l)], func() bool { return !slices.ContainsFunc(long[len(l):], func(x T) bool { return !isKept(x) }) }
}

// R4: what lies behind the lists of arguments belongs to others.
func TestRoomBehindArguments(t *testing.T) {
	s := source(21)
	far, number := at("888 889"), num("888")
	isFar := func(p exact.Point) bool { return p.X.Cmp(far.X) == 0 && p.Z.Cmp(far.Z) == 0 }
	isNumber := func(q exact.Q) bool { return q.Cmp(number) == 0 }
	for range 20 {
		a := ordinary(&s)
		var checks []func() bool
		var check func() bool
		add := func(check func() bool) { checks = append(checks, check) }
		for i := range a.m.Bodies {
			a.m.Bodies[i].Shape, check = roomy(a.m.Bodies[i].Shape, isFar, far)
			add(check)
		}
		for i := range a.m.Feet {
			a.m.Feet[i].Points, check = roomy(a.m.Feet[i].Points, isFar, far)
			add(check)
		}
		a.m.Bodies, check = roomy(a.m.Bodies, func(b machine.Body) bool { return b.Name == "room" }, machine.Body{Name: "room"})
		add(check)
		a.m.Tendons, check = roomy(a.m.Tendons, func(t machine.Tendon) bool { return t.A == 888 }, machine.Tendon{A: 888})
		add(check)
		a.m.Feet, check = roomy(a.m.Feet, func(f machine.Foot) bool { return f.Body == 888 }, machine.Foot{Body: 888})
		add(check)
		a.p.Joints, check = roomy(a.p.Joints, isNumber, number)
		add(check)
		a.v.Weights, check = roomy(a.v.Weights, isNumber, number)
		add(check)
		for _, l := range []*[]exact.Point{&a.a, &a.b, (*[]exact.Point)(&a.g)} {
			*l, check = roomy(*l, isFar, far)
			add(check)
		}
		for name, call := range calls(a) {
			call().grow()
			for _, isKept := range checks {
				if !isKept() {
					t.Error(name, "writes behind its arguments")
				}
			}
		}
	}
}

// P2: calls that run at the same time do not disturb each other.
func TestAtTheSameTime(t *testing.T) {
	s := source(22)
	a := ordinary(&s)
	all := calls(a)
	want := map[string]string{}
	for name, call := range all {
		want[name] = call().all()
	}
	names := slices.Sorted(maps.Keys(all))
	var wait sync.WaitGroup
	for i := range 8 {
		wait.Go(func() {
			for k := range names {
				name := names[(k+3*i)%len(names)]
				if all[name]().all() != want[name] {
					t.Error(name, "gives something else at the same time as other calls")
				}
			}
		})
	}
	wait.Wait()
}

// R3: a nil list and an empty list are the same.
func TestNilAndEmpty(t *testing.T) {
	none := machine.Machine{Name: "m", Bodies: []machine.Body{{Name: "a", Parent: -1, Mass: num("1"), Inertia: num("1")}}}
	empty := none
	empty.Bodies = slices.Clone(none.Bodies)
	empty.Bodies[0].Shape = []exact.Point{}
	empty.Springs, empty.Tendons, empty.Motors, empty.Feet = []machine.Spring{}, []machine.Tendon{}, []machine.Motor{}, []machine.Foot{}
	first := arguments{m: none, g: ground("0 0, 1 0")}
	second := arguments{m: empty, p: pose.Pose{Joints: []exact.Q{}}, a: []exact.Point{}, b: []exact.Point{}, v: pose.Verdict{Weights: []exact.Q{}}, g: first.g}
	for range 2 {
		others := calls(second)
		for name, call := range calls(first) {
			expect(t, name+" of empty lists", others[name]().all(), call().all())
		}
		first.m.Bodies, second.m.Bodies = nil, []machine.Body{}
		first.g, second.g = nil, pose.Ground{}
	}
	line := pose.Verdict{Normal: at("1 0"), Offset: num("1")}
	if !pose.ProveApart(points("0 0"), points("2 0"), line) {
		t.Error("ProveApart with nil weights")
	}
	line.Weights = []exact.Q{}
	if !pose.ProveApart(points("0 0"), points("2 0"), line) {
		t.Error("ProveApart with empty weights")
	}
}

// oddInt returns an integer, often one that is none of a list's.
func (s *source) oddInt() int {
	odd := []int{math.MinInt, math.MinInt + 1, -1000, -2, -1, 0, 1, 2, 3, 4, 11, 12, 1 << 32, math.MaxInt - 1, math.MaxInt}
	return odd[s.below(len(odd))]
}

// oddNumber returns a number, now and then 0 or a great one.
func (s *source) oddNumber() exact.Q {
	switch s.below(5) {
	case 0:
		return exact.Q{}
	case 1:
		q := exact.Int(int64(s.oddInt()))
		for range s.below(3) {
			q = q.Mul(q)
		}
		return q
	case 2:
		q, _ := exact.Of(1, int64(s.oddInt()))
		return q
	}
	return s.number()
}

func (s *source) oddPoint() exact.Point { return exact.Point{X: s.oddNumber(), Z: s.oddNumber()} }

func (s *source) oddPoints(most int) []exact.Point {
	var l []exact.Point
	for range s.below(most + 1) {
		l = append(l, s.oddPoint())
	}
	return l
}

func (s *source) oddNumbers(most int) []exact.Q {
	var l []exact.Q
	for range s.below(most + 1) {
		l = append(l, s.oddNumber())
	}
	return l
}

func (s *source) oddSurd() exact.Surd {
	r := exact.Surd{A: s.oddNumber(), B: s.oddNumber()}
	switch s.below(3) {
	case 0:
		r.D = s.oddNumber()
	case 1:
		r.D = num("2")
	}
	return r
}

// spoil changes something of a machine.
func (s *source) spoil(m *machine.Machine) {
	switch s.below(8) {
	case 0:
		m.Name = ""
	case 1:
		m.Bodies = append(m.Bodies, machine.Body{Name: "more", Parent: s.oddInt(), At: s.oddPoint(), Mass: s.oddNumber(), Inertia: s.oddNumber()})
	case 2:
		m.Tendons = append(m.Tendons, machine.Tendon{A: s.oddInt(), B: s.oddInt(), From: s.oddPoint(), Length: s.oddNumber()})
	case 3:
		m.Feet = append(m.Feet, machine.Foot{Body: s.oddInt(), Points: s.oddPoints(3), Friction: s.oddNumber()})
	case 4:
		m.Bodies = append(m.Bodies, m.Bodies...)
	default:
		if len(m.Bodies) > 0 {
			b := &m.Bodies[s.below(len(m.Bodies))]
			switch s.below(3) {
			case 0:
				b.Parent = s.oddInt()
			case 1:
				b.Shape = s.oddPoints(13)
			case 2:
				b.Low, b.Centre, b.Mass = s.oddNumber(), s.oddPoint(), s.oddNumber()
			}
		}
	}
}

// strange returns any arguments.
func (s *source) strange() arguments {
	a := arguments{body: s.oddInt(), at: s.oddPoint(), target: s.oddPoint(), x: s.oddNumber()}
	if s.below(3) > 0 {
		a.body = 1 + s.below(6)
	}
	if s.below(8) > 0 {
		a.m, a.p = legged()
	}
	a.p.At, a.p.Turn = s.oddPoint(), s.oddNumber()
	if s.below(6) == 0 {
		a.p.Joints = s.oddNumbers(8)
	} else if len(a.p.Joints) > 0 {
		a.p.Joints[s.below(len(a.p.Joints))] = s.oddNumber()
	}
	if s.below(4) == 0 {
		s.spoil(&a.m)
	}
	a.bend = pose.Bend{A: s.oddSurd(), B: s.oddSurd(), Within: s.below(2) == 0}
	a.a, a.b = s.oddPoints(8), s.oddPoints(8)
	if s.below(8) == 0 {
		a.a = s.points(17 + s.below(5))
	}
	a.v = pose.Verdict{Common: s.below(2) == 0, Point: s.oddPoint(), Normal: s.oddPoint(), Offset: s.oddNumber(), Weights: s.oddNumbers(16)}
	a.g = s.oddPoints(3)
	if s.below(2) == 0 {
		a.g = s.ground()
	}
	return a
}

// P1 and R2: no call panics, and with an error every other result is zero.
func TestStrangeArguments(t *testing.T) {
	s := source(23)
	failures, successes := map[string]int{}, map[string]int{}
	zero := zeros()
	for range 400 {
		a := s.strange()
		before := a.all()
		for name, call := range calls(a) {
			r := call()
			expect(t, name+": the arguments", a.all(), before)
			if r.e == api.OK {
				successes[name]++
				continue
			}
			failures[name]++
			want := zero[name]
			if want == "" {
				want = result{}.values()
			}
			expect(t, name+" with an error", r.values(), want)
		}
	}
	for name := range calls(s.strange()) {
		if failures[name] < 20 && name != "ProveApart" || successes[name] < 20 {
			t.Error(name, "failed", failures[name], "times, and did not", successes[name], "times")
		}
	}
}

// The chapter's examples, and the document's.
func TestExamples(t *testing.T) {
	m, p := walker(), standing("0 0")
	expect(t, "World", pointText(worldOf(t, m, p, 2, at("0 -2"))), "(0 0)")
	centre, e := pose.Centre(m, p)
	expectOK(t, "Centre", pointText(centre), e, "(0 3)")
	bowed := standing("1 0")
	expect(t, "World", pointText(worldOf(t, m, bowed, 2, at("0 -2"))), "(4 4)")
	centre, e = pose.Centre(m, bowed)
	expectOK(t, "Centre", pointText(centre), e, "(1 4)")
	j, e := pose.Jacobian(m, p, 2, at("0 -2"))
	expectOK(t, "Jacobian", matText(j), e, "[1 0 4 4 2][0 1 0 0 0]")
	bends, e := pose.Bends(m, p, 2, at("0 -2"), at("2 2"))
	expectBends(t, "Bends to (2, 2)", bends, e, "1", "-1", "0", "1")
	if !bends[0].Within || !bends[1].Within {
		t.Error("Bends to (2, 2) are not within")
	}
	v := apart(t, points("0 0, 2 0, 0 2"), points("1 1, 3 3"))
	expect(t, "the common point", pointText(v.Point), "(1 1)")
	v = apart(t, points("0 0, 2 0, 0 2"), points("2 2, 3 3"))
	if v.Common || !pose.ProveApart(points("0 0, 2 0, 0 2"), points("2 2, 3 3"), pose.Verdict{Normal: at("1 1"), Offset: num("3")}) {
		t.Error("Apart of a triangle and a line beside it")
	}
	g := ground("0 0, 2 1, 3 1")
	height, e := pose.Height(g, num("1"))
	expectOK(t, "Height at 1", height.Text(), e, "1/2")
	for x, want := range map[string]string{"2": "(1 0)", "1": "(2 1)", "-1": "(1 0)"} {
		along, e := pose.Along(g, num(x))
		expectOK(t, "Along at "+x, pointText(along), e, want)
	}
}
