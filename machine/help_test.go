package machine_test

import (
	"strconv"
	"strings"
	"testing"

	"amble/api"
	"amble/exact"
	"amble/machine"
)

// The tests call package machine through what it exports. What they expect is
// written out, or found by going through all fields one by one: texts of
// machines and places of numbers have a second description below.

// num returns the number of a text.
func num(s string) exact.Q {
	q, e := exact.Parse(s)
	if e != api.OK {
		panic("not a number: " + s)
	}
	return q
}

func at(x, z string) exact.Point { return exact.Point{X: num(x), Z: num(z)} }

// points returns the points of a text like "0 0, 1 0, 0 1".
func points(s string) []exact.Point {
	var l []exact.Point
	for _, part := range strings.Split(s, ",") {
		words := strings.Fields(part)
		l = append(l, at(words[0], words[1]))
	}
	return l
}

// rich returns a valid machine with all kinds of parts. All its numbers are
// different ones, as far as they may be.
func rich() machine.Machine {
	return machine.Machine{
		Name: "crab_1",
		Bodies: []machine.Body{
			{Name: "trunk", Parent: -1, Mass: num("10"), Inertia: num("1/2"), Centre: at("1/10", "-1/5"), Shape: points("-3/8 -3/16, 5/16 -1/7, 3/7 2/7, -2/9 4/9")},
			{Name: "Thigh", Parent: 0, At: at("1/4", "-1/8"), Mass: num("2"), Inertia: num("1/11"), Centre: at("1/100", "-1/6"), Low: num("-1"), High: num("3/5"), Shape: points("1/12 0, 1/13 1/14, -1/15 -1/16")},
			{Name: "_shin2", Parent: 1, At: at("1/50", "-2/5"), Mass: num("5/4"), Inertia: num("1/21"), Centre: at("1/51", "-1/22"), Low: num("-1/23"), High: num("3/2")},
			{Name: "arm", Parent: 0, At: at("-1/3", "1/9"), Mass: num("3/4"), Inertia: num("1/31"), Centre: at("-1/32", "1/33"), Low: num("-7/2"), High: num("-3")},
		},
		Springs: []machine.Spring{
			{A: 0, B: 1, From: at("2/41", "3/41"), To: at("4/41", "-5/41"), Stiff: num("410")},
			{A: 3, B: 2, From: at("-2/43", "3/43"), To: at("-4/43", "5/43"), Stiff: num("0.43")},
		},
		Tendons: []machine.Tendon{
			{A: 2, B: 0, From: at("2/51", "-3/51"), To: at("4/51", "5/51"), Length: num("6/51")},
			{A: 1, B: 3, From: at("2/53", "3/53"), To: at("-4/53", "5/53"), Length: num("6/53")},
		},
		Motors: []machine.Motor{
			{Body: 1, Torque: num("61"), Heating: num("0.062"), Cooling: num("0.63"), Most: num("64")},
			{Body: 3, Torque: num("71"), Heating: num("0.072"), Cooling: num("0.73"), Most: num("74")},
		},
		Feet: []machine.Foot{
			{Body: 2, Points: points("-1/81 -2/81, 4/81 -5/82"), Friction: num("4/5")},
			{Body: 3, Points: points("1/91 -2/91"), Friction: num("0.9")},
		},
	}
}

// clone returns a copy of m that shares no memory with it.
func clone(m machine.Machine) machine.Machine {
	m.Bodies = append([]machine.Body{}, m.Bodies...)
	for i, b := range m.Bodies {
		m.Bodies[i].Shape = append([]exact.Point{}, b.Shape...)
	}
	m.Springs = append([]machine.Spring{}, m.Springs...)
	m.Tendons = append([]machine.Tendon{}, m.Tendons...)
	m.Motors = append([]machine.Motor{}, m.Motors...)
	m.Feet = append([]machine.Foot{}, m.Feet...)
	for i, f := range m.Feet {
		m.Feet[i].Points = append([]exact.Point{}, f.Points...)
	}
	return m
}

// spot is a number of a machine and its place.
type spot struct {
	place  machine.Place
	number *exact.Q
}

// spots returns all numbers of a machine, in the order of their places.
func spots(m *machine.Machine) []spot {
	var l []spot
	add := func(kind uint8, index, field, item int, q *exact.Q) {
		l = append(l, spot{machine.Place{Kind: kind, Index: index, Field: field, Item: item}, q})
	}
	for i := range m.Bodies {
		b := &m.Bodies[i]
		for field, q := range []*exact.Q{&b.At.X, &b.At.Z, &b.Mass, &b.Inertia, &b.Centre.X, &b.Centre.Z, &b.Low, &b.High} {
			add(1, i, field, 0, q)
		}
		for item := range b.Shape {
			add(1, i, 8, item, &b.Shape[item].X)
		}
		for item := range b.Shape {
			add(1, i, 9, item, &b.Shape[item].Z)
		}
	}
	for i := range m.Springs {
		s := &m.Springs[i]
		for field, q := range []*exact.Q{&s.From.X, &s.From.Z, &s.To.X, &s.To.Z, &s.Stiff} {
			add(2, i, field, 0, q)
		}
	}
	for i := range m.Tendons {
		s := &m.Tendons[i]
		for field, q := range []*exact.Q{&s.From.X, &s.From.Z, &s.To.X, &s.To.Z, &s.Length} {
			add(3, i, field, 0, q)
		}
	}
	for i := range m.Motors {
		o := &m.Motors[i]
		for field, q := range []*exact.Q{&o.Torque, &o.Heating, &o.Cooling, &o.Most} {
			add(4, i, field, 0, q)
		}
	}
	for i := range m.Feet {
		f := &m.Feet[i]
		for item := range f.Points {
			add(5, i, 0, item, &f.Points[item].X)
		}
		for item := range f.Points {
			add(5, i, 1, item, &f.Points[item].Z)
		}
		add(5, i, 2, 0, &f.Friction)
	}
	return l
}

// isFixed reports whether a place is that of a number of the trunk that may
// only be 0.
func isFixed(p machine.Place) bool {
	return p.Kind == machine.OfBody && p.Index == 0 && (p.Field < 2 || p.Field == 6 || p.Field == 7)
}

// tolerance returns a tolerance; the place is that of four numbers.
func tolerance(kind uint8, index, field, item int, amount string) machine.Tolerance {
	return machine.Tolerance{Place: machine.Place{Kind: kind, Index: index, Field: field, Item: item}, Amount: num(amount)}
}

// loose returns the design of the rich machine in which each number that may
// have a tolerance has one, all with different amounts.
func loose() machine.Design {
	d := machine.Design{Machine: rich()}
	for i, s := range spots(&d.Machine) {
		if !isFixed(s.place) {
			d.Tolerances = append(d.Tolerances, machine.Tolerance{Place: s.place, Amount: num("1/" + strconv.Itoa(2000+i))})
		}
	}
	return d
}

// lines returns the text of lines.
func lines(l ...string) string { return strings.Join(l, "\n") + "\n" }

// hopper returns the text of the chapter's example.
func hopper() string {
	return lines("machine hopper", "trunk hip 10kg 1/2kgm2 0m 0m", "body leg hip 0m 0m 2+-0.1kg 1kgcm2 0m -20cm -1 1",
		"body shin leg 0m -400+-1mm 1kg 1kgcm2 0m -20cm 0 1/2", "foot shin 0.8 0m -40cm")
}

// parsed returns the design of a text that is right.
func parsed(t *testing.T, text string) machine.Design {
	t.Helper()
	d, line, e := machine.Parse(text)
	if e != api.OK || line != 0 {
		t.Fatalf("Parse: the error %d in line %d of\n%s", e, line, text)
	}
	return d
}

// machineText returns a text with all that a machine has.
func machineText(m machine.Machine) string {
	var words []string
	add := func(ints ...int) {
		for _, n := range ints {
			words = append(words, strconv.Itoa(n))
		}
	}
	for _, b := range m.Bodies {
		words = append(words, strconv.Quote(b.Name))
		add(b.Parent, len(b.Shape))
	}
	words = append(words, "springs")
	for _, s := range m.Springs {
		add(s.A, s.B)
	}
	words = append(words, "tendons")
	for _, s := range m.Tendons {
		add(s.A, s.B)
	}
	words = append(words, "motors")
	for _, o := range m.Motors {
		add(o.Body)
	}
	words = append(words, "feet")
	for _, f := range m.Feet {
		add(f.Body, len(f.Points))
	}
	for _, s := range spots(&m) {
		words = append(words, s.number.Text())
	}
	return strconv.Quote(m.Name) + ": " + strings.Join(words, " ")
}

func placeText(p machine.Place) string {
	words := []string{strconv.Itoa(int(p.Kind)), strconv.Itoa(p.Index), strconv.Itoa(p.Field), strconv.Itoa(p.Item)}
	return "[" + strings.Join(words, " ") + "]"
}

func designText(d machine.Design) string {
	text := machineText(d.Machine)
	for _, t := range d.Tolerances {
		text += " " + placeText(t.Place) + t.Amount.Text()
	}
	return text
}

func intsText(l []int) string {
	var words []string
	for _, n := range l {
		words = append(words, strconv.Itoa(n))
	}
	return strings.Join(words, " ")
}

// expect compares what a call gave with what it should give.
func expect(t *testing.T, call, got, want string) {
	t.Helper()
	if got != want {
		t.Errorf("%s: got %s, want %s", call, got, want)
	}
}

func expectError(t *testing.T, call string, got, want api.Errno) {
	t.Helper()
	if got != want {
		t.Errorf("%s: got the error %d, want %d", call, got, want)
	}
}

// source gives numbers that look random; the same ones in each run.
type source uint64

func (s *source) next() uint64 {
	*s += 0x9e3779b97f4a7c15
	x := uint64(*s)
	x = (x ^ x>>30) * 0xbf58476d1ce4e5b9
	x = (x ^ x>>27) * 0x94d049bb133111eb
	return x ^ x>>31
}

func (s *source) below(n int) int { return int(s.next() % uint64(n)) }

// number returns a number from -9 to 9.
func (s *source) number() exact.Q {
	q, _ := exact.Of(int64(s.below(181)-90), int64(10+s.below(20)))
	return q
}

// positive returns a number above 0.
func (s *source) positive() exact.Q { return s.number().Abs().Add(num("1/7")) }

func (s *source) point() exact.Point { return exact.Point{X: s.number(), Z: s.number()} }

// shape returns corners on a circle, in the order of their angles; now and
// then none.
func (s *source) shape() []exact.Point {
	if s.below(3) == 0 {
		return nil
	}
	tangents := []exact.Q{s.number()}
	for range 2 + s.below(10) {
		tangents = append(tangents, tangents[len(tangents)-1].Add(s.positive()))
	}
	size, centre := s.positive(), s.point()
	var corners []exact.Point
	for _, tangent := range tangents {
		turned := exact.Point{X: size}.Turn(exact.Turn(tangent))
		corners = append(corners, turned.Add(centre))
	}
	return corners
}

// two returns two of n bodies.
func (s *source) two(n int) (a, b int) {
	a = s.below(n)
	return a, (a + 1 + s.below(n-1)) % n
}

// machine returns any valid machine.
func (s *source) machine() machine.Machine {
	m := machine.Machine{Name: "m" + strconv.Itoa(s.below(1000))}
	n := 1 + s.below(api.MaxBodies)
	for i := range n {
		b := machine.Body{Name: "b" + strconv.Itoa(i), Parent: -1, Mass: s.positive(), Inertia: s.positive(), Centre: s.point(), Shape: s.shape()}
		if i > 0 {
			b.Parent, b.At, b.Low = s.below(i), s.point(), s.number()
			b.High = b.Low.Add(s.positive())
		}
		m.Bodies = append(m.Bodies, b)
	}
	for range s.below(3) {
		points := []exact.Point{s.point(), s.point()}
		m.Feet = append(m.Feet, machine.Foot{Body: s.below(n), Points: points[s.below(2):], Friction: s.number().Abs()})
	}
	if n == 1 {
		return m
	}
	for range s.below(4) {
		a, b := s.two(n)
		m.Springs = append(m.Springs, machine.Spring{A: a, B: b, From: s.point(), To: s.point(), Stiff: s.number().Abs()})
	}
	for range s.below(4) {
		a, b := s.two(n)
		m.Tendons = append(m.Tendons, machine.Tendon{A: a, B: b, From: s.point(), To: s.point(), Length: s.positive()})
	}
	for body := 1; body < n; body += 1 + s.below(3) {
		m.Motors = append(m.Motors, machine.Motor{Body: body, Torque: s.number().Abs(), Heating: s.number().Abs(), Cooling: s.number().Abs(), Most: s.positive()})
	}
	return m
}

// amount returns how much a number other than 0 may be less or more: one above
// 0 stays above 0.
func (s *source) amount(number exact.Q) exact.Q {
	share, _ := exact.Of(int64(1+s.below(19)), 20)
	if number.Sign() > 0 {
		return share.Mul(number)
	}
	return share
}

// isTouchy reports whether a change of the number at a place may be wrong
// because of other numbers.
func isTouchy(p machine.Place) bool {
	return p.Kind == machine.OfBody && p.Field >= 6 || p.Kind == machine.OfFoot
}

// design returns any valid design.
func (s *source) design(t *testing.T) machine.Design {
	t.Helper()
	d := machine.Design{Machine: s.machine()}
	expectError(t, "Check", machine.Check(d.Machine), api.OK)
	for _, spot := range spots(&d.Machine) {
		if !isFixed(spot.place) && spot.number.Sign() != 0 && s.below(3) == 0 {
			d.Tolerances = append(d.Tolerances, machine.Tolerance{Place: spot.place, Amount: s.amount(*spot.number)})
		}
	}
	for machine.CheckDesign(d) != api.OK {
		for i, tolerance := range d.Tolerances {
			if isTouchy(tolerance.Place) {
				d.Tolerances[i].Amount = tolerance.Amount.Mul(num("1/10"))
			}
		}
	}
	return d
}
