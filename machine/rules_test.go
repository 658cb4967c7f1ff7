package machine_test

import (
	"maps"
	"math"
	"slices"
	"strconv"
	"strings"
	"sync"
	"testing"

	"amble/api"
	"amble/exact"
	"amble/machine"
)

// P1, P2 and the rules of the document that concern all calls of the layer.

// arguments are those of all calls; each call takes some of them.
type arguments struct {
	d          machine.Design
	other      machine.Machine
	by         []int
	body, from int
	k          exact.Q
	place      machine.Place
	text, s    string
	what       uint8
}

func (a arguments) all() string {
	return designText(a.d) + machineText(a.other) + intsText(a.by)
}

// result is what a call gave: its memory, other values, and its error.
type result struct {
	design machine.Design
	ints   []int
	names  []string
	more   string
	e      api.Errno
}

func (r result) all() string {
	return designText(r.design) + "|" + intsText(r.ints) + "|" + strings.Join(r.names, ",") + "|" + r.more + "|" + strconv.Itoa(int(r.e))
}

func ofMachine(m machine.Machine, e api.Errno) result {
	return result{design: machine.Design{Machine: m}, e: e}
}

func ofRange(low, high exact.Q, e api.Errno) result {
	return result{more: low.Text() + " " + high.Text(), e: e}
}

// nothing is the other values of a call that returns two numbers.
const nothing = "0 0"

// calls returns all calls of the layer with these arguments.
func calls(a arguments) map[string]func() result {
	m := a.d.Machine
	return map[string]func() result{
		"Quantity":    func() result { return ofRange(machine.Quantity(a.s, a.what)) },
		"Check":       func() result { return result{e: machine.Check(m)} },
		"CheckDesign": func() result { return result{e: machine.CheckDesign(a.d)} },
		"Parse": func() result {
			d, line, e := machine.Parse(a.text)
			return result{design: d, names: []string{strconv.Itoa(line)}, e: e}
		},
		"Print": func() result { text, e := machine.Print(a.d); return result{more: text, e: e} },
		"Same":  func() result { return result{names: []string{strconv.FormatBool(machine.Same(m, a.other))}} },
		"Number": func() result {
			number, ok := machine.Number(m, a.place)
			return result{names: []string{number.Text(), strconv.FormatBool(ok)}}
		},
		"Vary":     func() result { return ofMachine(machine.Vary(a.d, a.by)) },
		"Names":    func() result { return result{names: machine.Names(m)} },
		"Chain":    func() result { l, e := machine.Chain(m, a.body); return result{ints: l, e: e} },
		"Children": func() result { l, e := machine.Children(m, a.body); return result{ints: l, e: e} },
		"Weight":   func() result { sum, e := machine.Weight(m); return ofRange(sum, exact.Q{}, e) },
		"Masses":   func() result { return ofRange(machine.Masses(a.d)) },
		"Spans":    func() result { return ofRange(machine.Spans(a.d, a.body)) },
		"Reach":    func() result { return ofRange(machine.Reach(a.d, a.from, a.body)) },
		"Mirror":   func() result { return ofMachine(machine.Mirror(m)) },
		"Scale":    func() result { return ofMachine(machine.Scale(m, a.k)) },
	}
}

// ordinary returns arguments with which most calls succeed.
func ordinary(t *testing.T, s *source) arguments {
	t.Helper()
	d := s.design(t)
	numbers := spots(&d.Machine)
	a := arguments{d: d, other: clone(d.Machine), by: make([]int, len(d.Tolerances)), body: s.below(len(d.Machine.Bodies)), k: s.positive(), place: numbers[s.below(len(numbers))].place, s: s.number().Text() + "kg", what: machine.Mass}
	a.text, _ = machine.Print(d)
	return a
}

// scribble writes into all memory of a result, everywhere something else.
func (r result) scribble() {
	m := &r.design.Machine
	n := 0
	next := func() int { n++; return 5000 + n }
	for _, s := range spots(m) {
		*s.number = exact.Int(int64(next()))
	}
	for i := range m.Bodies {
		m.Bodies[i].Name, m.Bodies[i].Parent = "n"+strconv.Itoa(next()), next()
	}
	for i := range m.Springs {
		m.Springs[i].A, m.Springs[i].B = next(), next()
	}
	for i := range m.Tendons {
		m.Tendons[i].A, m.Tendons[i].B = next(), next()
	}
	for i := range m.Motors {
		m.Motors[i].Body = next()
	}
	for i := range m.Feet {
		m.Feet[i].Body = next()
	}
	for i := range r.design.Tolerances {
		r.design.Tolerances[i] = tolerance(9, next(), next(), next(), strconv.Itoa(next()))
	}
	for i := range r.ints {
		r.ints[i] = next()
	}
	for i := range r.names {
		r.names[i] = strconv.Itoa(next())
	}
}

// grow appends to all lists of a result, whose room may belong to others.
func (r result) grow() {
	m := r.design.Machine
	for _, b := range m.Bodies {
		_ = append(b.Shape, at("777", "778"), at("779", "780"))
	}
	for _, f := range m.Feet {
		_ = append(f.Points, at("777", "778"), at("779", "780"))
	}
	_ = append(m.Bodies, machine.Body{Name: "grown"})
	_ = append(m.Springs, machine.Spring{A: 777})
	_ = append(m.Tendons, machine.Tendon{A: 777})
	_ = append(m.Motors, machine.Motor{Body: 777})
	_ = append(m.Feet, machine.Foot{Body: 777})
	_ = append(r.design.Tolerances, tolerance(7, 7, 7, 7, "7"))
	_ = append(r.ints, 777)
	_ = append(r.names, "grown")
}

// isDistinct reports whether no two numbers of a machine are at one place of
// the memory: each has another value after scribble.
func (r result) isDistinct() bool {
	seen := map[string]bool{}
	for _, s := range spots(&r.design.Machine) {
		if seen[s.number.Text()] {
			return false
		}
		seen[s.number.Text()] = true
	}
	return true
}

// R4 and P2: a result shares no memory with an argument, with another result,
// or with another part of its own; the same call gives the same.
func TestMemory(t *testing.T) {
	s := source(20)
	for range 20 {
		a := ordinary(t, &s)
		before := a.all()
		for name, call := range calls(a) {
			first, second := call(), call()
			want := second.all()
			expect(t, name+" again", first.all(), want)
			first.grow()
			expect(t, name+": the result after its lists have grown", first.all(), want)
			first.scribble()
			expect(t, name+": another result", second.all(), want)
			expect(t, name+": the arguments", a.all(), before)
			if !first.isDistinct() {
				t.Error(name, "gives the same memory twice in one result")
			}
		}
	}
}

// roomy returns a list with room behind it, which holds other elements, and a
// function that reports whether they are still there.
func roomy[T any](l []T, isKept func(T) bool, other T) ([]T, func() bool) {
	long := append(append([]T{}, l...), other, other, other)
	return long[:len(l)], func() bool { return !slices.ContainsFunc(long[len(l):], func(x T) bool { return !isKept(x) }) }
}

// R4: what lies behind the lists of arguments belongs to others.
func TestRoomBehindArguments(t *testing.T) {
	s := source(21)
	far := at("888", "889")
	for range 20 {
		a := ordinary(t, &s)
		m := &a.d.Machine
		var checks []func() bool
		add := func(check func() bool) { checks = append(checks, check) }
		isFar := func(p exact.Point) bool { return p.X.Cmp(far.X) == 0 && p.Z.Cmp(far.Z) == 0 }
		var check func() bool
		for i := range m.Bodies {
			m.Bodies[i].Shape, check = roomy(m.Bodies[i].Shape, isFar, far)
			add(check)
		}
		for i := range m.Feet {
			m.Feet[i].Points, check = roomy(m.Feet[i].Points, isFar, far)
			add(check)
		}
		m.Bodies, check = roomy(m.Bodies, func(b machine.Body) bool { return b.Name == "room" }, machine.Body{Name: "room"})
		add(check)
		m.Springs, check = roomy(m.Springs, func(s machine.Spring) bool { return s.A == 888 }, machine.Spring{A: 888})
		add(check)
		m.Tendons, check = roomy(m.Tendons, func(s machine.Tendon) bool { return s.A == 888 }, machine.Tendon{A: 888})
		add(check)
		m.Motors, check = roomy(m.Motors, func(o machine.Motor) bool { return o.Body == 888 }, machine.Motor{Body: 888})
		add(check)
		m.Feet, check = roomy(m.Feet, func(f machine.Foot) bool { return f.Body == 888 }, machine.Foot{Body: 888})
		add(check)
		a.d.Tolerances, check = roomy(a.d.Tolerances, func(t machine.Tolerance) bool { return t.Kind == 88 }, tolerance(88, 0, 0, 0, "1"))
		add(check)
		a.by, check = roomy(a.by, func(n int) bool { return n == 888 }, 888)
		add(check)
		for name, call := range calls(a) {
			call().grow()
			for _, isKept := range checks {
				if !isKept() {
					t.Error(name, "writes behind its arguments")
				}
			}
		}
	}
}

// P2: calls that run at the same time do not disturb each other.
func TestAtTheSameTime(t *testing.T) {
	s := source(22)
	a := ordinary(t, &s)
	all := calls(a)
	want := map[string]string{}
	for name, call := range all {
		want[name] = call().all()
	}
	names := slices.Sorted(maps.Keys(all))
	var wait sync.WaitGroup
	for i := range 8 {
		wait.Go(func() {
			for k := range names {
				name := names[(k+3*i)%len(names)]
				if all[name]().all() != want[name] {
					t.Error(name, "gives something else at the same time as other calls")
				}
			}
		})
	}
	wait.Wait()
}

// R3: a nil list and an empty list are the same.
func TestNilAndEmpty(t *testing.T) {
	none := machine.Machine{Name: "m", Bodies: []machine.Body{{Name: "a", Parent: -1, Mass: num("1"), Inertia: num("1")}}}
	empty := clone(none)
	empty.Springs, empty.Tendons, empty.Motors, empty.Feet = []machine.Spring{}, []machine.Tendon{}, []machine.Motor{}, []machine.Foot{}
	if !machine.Same(none, empty) || !machine.Same(empty, none) {
		t.Error("Same: nil is not empty")
	}
	base := arguments{k: num("2"), text: "", s: "1kg", what: machine.Mass}
	first, second := base, base
	first.d.Machine, first.other = none, empty
	second.d, second.other, second.by = machine.Design{Machine: empty, Tolerances: []machine.Tolerance{}}, none, []int{}
	others := calls(second)
	for name, call := range calls(first) {
		expect(t, name+" of empty lists", others[name]().all(), call().all())
	}
	first.d.Machine.Bodies, second.d.Machine.Bodies = nil, []machine.Body{}
	others = calls(second)
	for name, call := range calls(first) {
		expect(t, name+" of empty lists of bodies", others[name]().all(), call().all())
	}
}

// oddInt returns an integer, often one that is none of a list's.
func (s *source) oddInt() int {
	odd := []int{math.MinInt, math.MinInt + 1, -1000, -2, -1, 0, 1, 2, 11, 12, 13, 99, 100, 101, 1 << 32, math.MaxInt - 1, math.MaxInt}
	return odd[s.below(len(odd))]
}

// oddNumber returns a number, now and then 0 or a great one.
func (s *source) oddNumber() exact.Q {
	switch s.below(5) {
	case 0:
		return exact.Q{}
	case 1:
		q := exact.Int(int64(s.oddInt()))
		for range s.below(4) {
			q = q.Mul(q)
		}
		return q
	case 2:
		q, _ := exact.Of(1, int64(s.oddInt()))
		return q
	}
	return s.number()
}

func (s *source) oddPoints() []exact.Point {
	var l []exact.Point
	for range s.below(15) {
		l = append(l, exact.Point{X: s.oddNumber(), Z: s.oddNumber()})
	}
	return l
}

// spoil changes something of a machine.
func (s *source) spoil(m *machine.Machine) {
	names := []string{"", "1", "a b", "ä", "b0", "b1", strings.Repeat("x", 33), "\xff\x00"}
	name := names[s.below(len(names))]
	switch s.below(9) {
	case 0:
		m.Name = name
	case 1:
		m.Bodies = append(m.Bodies, machine.Body{Name: name, Parent: s.oddInt(), At: s.point(), Mass: s.oddNumber(), Inertia: s.oddNumber(), Low: s.oddNumber(), High: s.oddNumber()})
	case 2:
		m.Springs = append(m.Springs, make([]machine.Spring, s.below(10))...)
		m.Springs = append(m.Springs, machine.Spring{A: s.oddInt(), B: s.oddInt(), From: s.point(), Stiff: s.oddNumber()})
	case 3:
		m.Tendons = append(m.Tendons, make([]machine.Tendon, s.below(10))...)
		m.Tendons = append(m.Tendons, machine.Tendon{A: s.oddInt(), B: s.oddInt(), From: s.point(), Length: s.oddNumber()})
	case 4:
		m.Motors = append(m.Motors, machine.Motor{Body: s.oddInt(), Torque: s.oddNumber(), Heating: s.oddNumber(), Cooling: s.oddNumber(), Most: s.oddNumber()})
	case 5:
		m.Feet = append(m.Feet, machine.Foot{Body: s.oddInt(), Points: s.oddPoints(), Friction: s.oddNumber()})
	case 6:
		m.Bodies = append(m.Bodies, m.Bodies...)
	default:
		if len(m.Bodies) > 0 {
			b := &m.Bodies[s.below(len(m.Bodies))]
			switch s.below(4) {
			case 0:
				b.Name = name
			case 1:
				b.Parent = s.oddInt()
			case 2:
				b.Shape = s.oddPoints()
			case 3:
				b.Low, b.Mass = s.oddNumber(), s.oddNumber()
			}
		}
	}
}

// oddPlace returns any place.
func (s *source) oddPlace() machine.Place {
	index := func() int {
		if s.below(3) == 0 {
			return s.oddInt()
		}
		return s.below(12)
	}
	return machine.Place{Kind: uint8(s.below(8)), Index: index(), Field: index(), Item: index() * s.below(2)}
}

// oddText returns a text in which pieces are replaced.
func (s *source) oddText(text string, pieceCount int) string {
	pieces := []string{" ", "\n", "#", "machine", "trunk", "body", "shape", "spring", "tendon", "motor", "foot", "b0", "b1", "m", "1m", "-1/2kg", "+-", "1+-2cm", "0", "1/0", "\x00", "\xff", "ä", "\t", "\r\n", "999999999999", ".", "-", "/"}
	bytes := []byte(text)
	for range pieceCount {
		piece := pieces[s.below(len(pieces))]
		i := s.below(len(bytes) + 1)
		end := min(len(bytes), i+s.below(4))
		bytes = slices.Concat(bytes[:i], []byte(piece), bytes[end:])
	}
	return string(bytes)
}

// strange returns any arguments.
func (s *source) strange() arguments {
	a := arguments{body: s.oddInt(), from: s.oddInt(), k: s.oddNumber(), place: s.oddPlace(), what: uint8(s.below(12))}
	if s.below(4) > 0 {
		a.d.Machine = rich()
	}
	a.other = clone(a.d.Machine)
	a.text, _ = machine.Print(machine.Design{Machine: a.other})
	a.text = s.oddText(a.text, 1+s.below(4))
	a.s = s.oddText("1+-2kg", 1+s.below(3))
	for range s.below(3) {
		s.spoil(&a.d.Machine)
	}
	for range s.below(4) {
		a.d.Tolerances = append(a.d.Tolerances, machine.Tolerance{Place: s.oddPlace(), Amount: s.oddNumber()})
		a.by = append(a.by, s.oddInt())
	}
	return a
}

// P1 and R2: no call panics, and with an error every other result is zero (the
// line of Parse excepted).
func TestStrangeArguments(t *testing.T) {
	s := source(23)
	failures := map[string]int{}
	for range 3000 {
		a := s.strange()
		before := a.all()
		for name, call := range calls(a) {
			r := call()
			expect(t, name+": the arguments", a.all(), before)
			if r.e == api.OK {
				continue
			}
			failures[name]++
			if name != "Parse" {
				expect(t, name+" with an error", strings.Join(r.names, ""), "")
			}
			if r.more != nothing {
				expect(t, name+" with an error", r.more, "")
			}
			expect(t, name+" with an error", designText(r.design)+intsText(r.ints), designText(machine.Design{}))
		}
	}
	for name := range calls(s.strange()) {
		if failures[name] < 100 && name != "Same" && name != "Number" && name != "Names" {
			t.Error(name, "failed only", failures[name], "times")
		}
	}
}

// What is read is valid, and is printed and read as the same again.
func TestReadTexts(t *testing.T) {
	s := source(24)
	read := 0
	for range 10000 {
		text := s.oddText(hopper(), 1)
		d, line, e := machine.Parse(text)
		if e != api.OK {
			if last := strings.Count(text, "\n") + 2; line < 1 || line > last {
				t.Errorf("Parse of %q: the error %d in line %d", text, e, line)
			}
			continue
		}
		read++
		expectError(t, "CheckDesign of what was read", machine.CheckDesign(d), api.OK)
		again, e := machine.Print(d)
		expectError(t, "Print of what was read", e, api.OK)
		expect(t, "Parse of what was printed", designText(parsed(t, again)), designText(d))
	}
	if read < 300 {
		t.Error("only", read, "texts were read")
	}
}

// The chapter's examples, and the document's.
func TestExamples(t *testing.T) {
	d := parsed(t, hopper())
	low, high, e := machine.Masses(d)
	expectRange(t, "Masses", low, high, e, "129/10", "131/10")
	low, high, e = machine.Spans(d, 2)
	expectRange(t, "Spans(2)", low, high, e, "159201/1000000", "160801/1000000")
	l, e := machine.Chain(d.Machine, 2)
	expectList(t, "Chain(2)", l, e, "0 1 2")
	l, e = machine.Children(d.Machine, 0)
	expectList(t, "Children(0)", l, e, "1")
	text, e := machine.Print(d)
	expectError(t, "Print", e, api.OK)
	expect(t, "Print, the fourth line", strings.Split(text, "\n")[3], "body shin leg 0m -2/5+-1/1000m 1kg 1/10000kgm2 0m -1/5m 0 1/2")
	expectQuantity(t, "12+-0.1mm", machine.Length, "3/250", "1/10000")
	expectNoQuantity(t, "12kg", machine.Length, api.ErrUnit)
	expectNoQuantity(t, "x", machine.Mass, api.ErrForm)
	expectNoQuantity(t, "1+--1m", machine.Length, api.ErrForm)
}
