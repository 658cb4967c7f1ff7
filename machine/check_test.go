package machine_test

import (
	"math"
	"strconv"
	"strings"
	"testing"

	"amble/api"
	"amble/exact"
	"amble/machine"
)

// change is something that is done to a machine, and the error that it then
// has.
type change struct {
	name  string
	apply func(m *machine.Machine)
	want  api.Errno
}

func expectChanges(t *testing.T, changes []change) {
	t.Helper()
	for _, c := range changes {
		m := rich()
		c.apply(&m)
		expectError(t, "Check: "+c.name, machine.Check(m), c.want)
	}
}

func TestCheckRich(t *testing.T) {
	expectError(t, "Check", machine.Check(rich()), api.OK)
	small := machine.Machine{Name: "m", Bodies: []machine.Body{{Name: "b", Parent: -1, Mass: num("1"), Inertia: num("1")}}}
	expectError(t, "Check of a trunk", machine.Check(small), api.OK)
	expectError(t, "Check of nothing", machine.Check(machine.Machine{}), api.ErrName)
	s := source(1)
	for range 100 {
		m := s.machine()
		expectError(t, "Check of "+machineText(m), machine.Check(m), api.OK)
	}
}

// P3.2: names.
func TestNames(t *testing.T) {
	check := func(name string, isName bool) {
		t.Helper()
		want := api.ErrName
		if isName {
			want = api.OK
		}
		m := rich()
		m.Name = name
		expectError(t, "the machine's name "+strconv.Quote(name), machine.Check(m), want)
		for i := range m.Bodies {
			m = rich()
			m.Bodies[i].Name = name
			expectError(t, "a body's name "+strconv.Quote(name), machine.Check(m), want)
		}
	}
	for _, name := range []string{"a", "Z", "_", "__", "_9", "aZ09_", "a1", strings.Repeat("x", 32), "machine", "body"} {
		check(name, true)
	}
	for _, name := range []string{"", "1", "1a", "a b", " a", "a ", "a-b", "a.b", "ä", "a\xff", "a\n", strings.Repeat("x", 33), strings.Repeat("x", 1000)} {
		check(name, false)
	}
	for b := range 256 {
		letter := b == '_' || b >= 'a' && b <= 'z' || b >= 'A' && b <= 'Z'
		check(string([]byte{byte(b)}), letter)
		check(string([]byte{'x', byte(b)}), letter || b >= '0' && b <= '9')
	}
}

// P3.2: what is wrong with a body.
func TestCheckBody(t *testing.T) {
	body := func(name string, i int, want api.Errno, apply func(b *machine.Body)) change {
		return change{name, func(m *machine.Machine) { apply(&m.Bodies[i]) }, want}
	}
	expectChanges(t, []change{
		body("the trunk has the parent 0", 0, api.ErrArg, func(b *machine.Body) { b.Parent = 0 }),
		body("the trunk has the parent 1", 0, api.ErrArg, func(b *machine.Body) { b.Parent = 1 }),
		body("the trunk has the parent -2", 0, api.ErrArg, func(b *machine.Body) { b.Parent = -2 }),
		body("At.X of the trunk", 0, api.ErrArg, func(b *machine.Body) { b.At.X = num("1/1000") }),
		body("At.Z of the trunk", 0, api.ErrArg, func(b *machine.Body) { b.At.Z = num("-1") }),
		body("Low of the trunk", 0, api.ErrArg, func(b *machine.Body) { b.Low = num("-1") }),
		body("High of the trunk", 0, api.ErrArg, func(b *machine.Body) { b.High = num("1") }),
		body("Low and High of the trunk", 0, api.ErrArg, func(b *machine.Body) { b.Low, b.High = num("1"), num("1") }),
		body("any centre of the trunk", 0, api.OK, func(b *machine.Body) { b.Centre = at("-9", "9") }),
		body("mass 0 of the trunk", 0, api.ErrArg, func(b *machine.Body) { b.Mass = exact.Q{} }),
		body("inertia 0 of the trunk", 0, api.ErrArg, func(b *machine.Body) { b.Inertia = exact.Q{} }),
		body("the parent is none", 2, api.ErrArg, func(b *machine.Body) { b.Parent = -1 }),
		body("the parent is itself", 2, api.ErrArg, func(b *machine.Body) { b.Parent = 2 }),
		body("the parent is a later one", 2, api.ErrArg, func(b *machine.Body) { b.Parent = 3 }),
		body("the parent is too great", 3, api.ErrArg, func(b *machine.Body) { b.Parent = 4 }),
		body("the parent is the greatest int", 3, api.ErrArg, func(b *machine.Body) { b.Parent = math.MaxInt }),
		body("the parent is the least int", 3, api.ErrArg, func(b *machine.Body) { b.Parent = math.MinInt }),
		body("another parent", 3, api.OK, func(b *machine.Body) { b.Parent = 2 }),
		body("Low is greater than High", 1, api.ErrArg, func(b *machine.Body) { b.Low = b.High.Add(num("1/1000000")) }),
		body("Low is High", 1, api.OK, func(b *machine.Body) { b.Low = b.High }),
		body("At may be 0", 1, api.OK, func(b *machine.Body) { b.At = exact.Point{} }),
		body("mass 0", 1, api.ErrArg, func(b *machine.Body) { b.Mass = exact.Q{} }),
		body("mass below 0", 3, api.ErrArg, func(b *machine.Body) { b.Mass = num("-1") }),
		body("inertia 0", 2, api.ErrArg, func(b *machine.Body) { b.Inertia = exact.Q{} }),
		body("inertia below 0", 1, api.ErrArg, func(b *machine.Body) { b.Inertia = num("-1/1000") }),
		body("the name of the body before", 1, api.ErrTwice, func(b *machine.Body) { b.Name = "trunk" }),
		body("the name of the first body", 3, api.ErrTwice, func(b *machine.Body) { b.Name = "trunk" }),
		body("the name of a later body", 1, api.ErrTwice, func(b *machine.Body) { b.Name = "arm" }),
		body("the name in other letters", 3, api.OK, func(b *machine.Body) { b.Name = "Trunk" }),
		body("the machine's name", 3, api.OK, func(b *machine.Body) { b.Name = "crab_1" }),
		body("no name and no mass", 1, api.ErrName, func(b *machine.Body) { b.Name, b.Mass = "1", exact.Q{} }),
		body("twice and no mass", 1, api.ErrTwice, func(b *machine.Body) { b.Name, b.Mass = "trunk", exact.Q{} }),
		body("twice and a wrong parent", 2, api.ErrTwice, func(b *machine.Body) { b.Name, b.Parent = "trunk", 7 }),
	})
}

// ring returns n corners on a circle: the one without a half tangent, and then
// those with half tangents that rise.
func ring(n int) []exact.Point {
	corners := []exact.Point{at("-1", "0")}
	for i := 2 - n; i <= n-2; i += 2 {
		q, _ := exact.Of(int64(i), 4)
		corners = append(corners, exact.Point{X: num("1")}.Turn(exact.Turn(q)))
	}
	return corners
}

// P3.2: shapes.
func TestCheckShape(t *testing.T) {
	check := func(shape []exact.Point, want api.Errno) {
		t.Helper()
		for i := range rich().Bodies {
			m := rich()
			m.Bodies[i].Shape = shape
			expectError(t, "a shape of "+strconv.Itoa(len(shape)), machine.Check(m), want)
		}
	}
	check(nil, api.OK)
	check([]exact.Point{}, api.OK)
	for n := 3; n <= api.MaxShape; n++ {
		check(ring(n), api.OK)
		turned := ring(n)
		for i, p := range ring(n) {
			turned[n-1-i] = p
		}
		check(turned, api.ErrArg)
		double := ring(n)
		double[n/2] = double[n/2-1]
		check(double, api.ErrArg)
		check(append(ring(n-1), at("0", "0")), api.ErrArg)
	}
	check(ring(api.MaxShape+1), api.ErrArg)
	check(ring(40), api.ErrArg)
	check(points("0 0"), api.ErrArg)
	check(points("0 0, 1 0"), api.ErrArg)
	for _, right := range []string{"0 0, 1 0, 0 1", "1 0, 0 1, 0 0", "0 0, 1 0, 1 1, 0 1", "0 0, 2 0, 1 1, 0 1/1000000"} {
		check(points(right), api.OK)
	}
	for _, wrong := range []string{
		"0 0, 0 1, 1 0",                            // clockwise
		"0 0, 1 0, 2 0",                            // all on a line
		"0 0, 1 0, 2 0, 0 1",                       // three on a line
		"0 0, 2 0, 0 1, 0 1/2",                     // three on a line, in the end
		"2 0, 0 1, 0 0, 1 0",                       // the last and the first
		"0 0, 4 0, 1 1, 0 4",                       // not convex
		"4 0, 1 1, 0 4, 0 0",                       // not convex
		"0 0, 1 1, 1 0, 0 1",                       // crossed
		"0 0, 1 0, 1 1, 0 1, 0 0",                  // the first corner twice
		"0 0, 1 0, 0 1, 0 0, 1 0, 0 1",             // twice around
		"0 3, -2 -3, 3 1, -3 1, 2 -3",              // a star, always to the left
		"0 0, 0 0, 0 0",                            // a point
		"0 0, 1 0, 1 0, 0 1",                       // a side without length
		"0 0, 2 0, 2 2, 1 2, 1 1, 0 1",             // a corner inward
		"0 0, 3 0, 3 3, 0 3, 1 1, 2 1, 2 2, 1 5/2", // inward at the end
	} {
		check(points(wrong), api.ErrArg)
	}
}

// isRound reports whether each corner lies strictly to the left of each side
// that it does not belong to.
func isRound(l []exact.Point) bool {
	for i, from := range l {
		next := (i + 1) % len(l)
		for k, corner := range l {
			if k != i && k != next && l[next].Sub(from).Cross(corner.Sub(from)).Sign() <= 0 {
				return false
			}
		}
	}
	return true
}

// P3.2: shapes that look random, near to those that are right.
func TestCheckAnyShape(t *testing.T) {
	s := source(32)
	count := map[bool]int{}
	check := func(l []exact.Point) {
		t.Helper()
		m := machine.Machine{Name: "m", Bodies: rich().Bodies[:1]}
		m.Bodies[0].Shape = l
		right := isRound(l)
		count[right]++
		if e := machine.Check(m); (e == api.OK) != right || e != api.OK && e != api.ErrArg {
			t.Errorf("Check: the error %d for %s", e, machineText(m))
		}
	}
	for range 30000 {
		var l []exact.Point
		for range 3 + s.below(4) {
			l = append(l, exact.Point{X: exact.Int(int64(s.below(5))), Z: exact.Int(int64(s.below(5)))})
		}
		check(l)
	}
	for range 3000 {
		n, first := 3+s.below(10), s.below(20)
		l := append(ring(n), ring(n)...)[first%n:][:n]
		if s.below(2) == 0 {
			i, k := s.below(n), s.below(n)
			l[i], l[k] = l[k], l[i]
		}
		check(l)
	}
	if count[true] < 1000 || count[false] < 1000 {
		t.Error("right and wrong shapes:", count[true], count[false])
	}
}

// P3.2: what is wrong with springs and tendons.
func TestCheckTies(t *testing.T) {
	spring := func(name string, i int, want api.Errno, apply func(s *machine.Spring)) change {
		return change{"spring, " + name, func(m *machine.Machine) { apply(&m.Springs[i]) }, want}
	}
	tendon := func(name string, i int, want api.Errno, apply func(s *machine.Tendon)) change {
		return change{"tendon, " + name, func(m *machine.Machine) { apply(&m.Tendons[i]) }, want}
	}
	changes := []change{
		spring("both ends", 0, api.ErrArg, func(s *machine.Spring) { s.B = s.A }),
		spring("both ends, the other", 1, api.ErrArg, func(s *machine.Spring) { s.A = s.B }),
		spring("turned", 1, api.OK, func(s *machine.Spring) { s.A, s.B = s.B, s.A }),
		spring("stiffness 0", 1, api.OK, func(s *machine.Spring) { s.Stiff = exact.Q{} }),
		spring("stiffness below 0", 1, api.ErrArg, func(s *machine.Spring) { s.Stiff = num("-1/100") }),
		spring("the same point", 0, api.OK, func(s *machine.Spring) { s.From, s.To = exact.Point{}, exact.Point{} }),
		tendon("both ends", 0, api.ErrArg, func(s *machine.Tendon) { s.B = s.A }),
		tendon("both ends, the other", 1, api.ErrArg, func(s *machine.Tendon) { s.A = s.B }),
		tendon("turned", 1, api.OK, func(s *machine.Tendon) { s.A, s.B = s.B, s.A }),
		tendon("length 0", 1, api.ErrArg, func(s *machine.Tendon) { s.Length = exact.Q{} }),
		tendon("length below 0", 0, api.ErrArg, func(s *machine.Tendon) { s.Length = num("-1/100") }),
		tendon("the same point", 0, api.OK, func(s *machine.Tendon) { s.From, s.To = exact.Point{}, exact.Point{} }),
	}
	for _, body := range []int{-1, 4, math.MaxInt, math.MinInt} {
		changes = append(changes,
			spring("A", 0, api.ErrArg, func(s *machine.Spring) { s.A = body }),
			spring("B", 1, api.ErrArg, func(s *machine.Spring) { s.B = body }),
			tendon("A", 1, api.ErrArg, func(s *machine.Tendon) { s.A = body }),
			tendon("B", 0, api.ErrArg, func(s *machine.Tendon) { s.B = body }))
	}
	expectChanges(t, changes)
}

// P3.2: what is wrong with motors and feet.
func TestCheckMotorsAndFeet(t *testing.T) {
	motor := func(name string, i int, want api.Errno, apply func(o *machine.Motor)) change {
		return change{"motor, " + name, func(m *machine.Machine) { apply(&m.Motors[i]) }, want}
	}
	foot := func(name string, i int, want api.Errno, apply func(f *machine.Foot)) change {
		return change{"foot, " + name, func(m *machine.Machine) { apply(&m.Feet[i]) }, want}
	}
	changes := []change{
		motor("torque 0", 0, api.OK, func(o *machine.Motor) { o.Torque = exact.Q{} }),
		motor("torque below 0", 0, api.ErrArg, func(o *machine.Motor) { o.Torque = num("-1") }),
		motor("heating 0", 1, api.OK, func(o *machine.Motor) { o.Heating = exact.Q{} }),
		motor("heating below 0", 1, api.ErrArg, func(o *machine.Motor) { o.Heating = num("-1") }),
		motor("cooling 0", 0, api.OK, func(o *machine.Motor) { o.Cooling = exact.Q{} }),
		motor("cooling below 0", 1, api.ErrArg, func(o *machine.Motor) { o.Cooling = num("-1") }),
		motor("heat 0", 0, api.ErrArg, func(o *machine.Motor) { o.Most = exact.Q{} }),
		motor("heat below 0", 1, api.ErrArg, func(o *machine.Motor) { o.Most = num("-1") }),
		motor("twice", 1, api.ErrTwice, func(o *machine.Motor) { o.Body = 1 }),
		motor("at another body", 1, api.OK, func(o *machine.Motor) { o.Body = 2 }),
		motor("twice, and torque below 0", 1, api.ErrArg, func(o *machine.Motor) { o.Body, o.Torque = 1, num("-1") }),
		motor("twice, and heat 0", 1, api.ErrArg, func(o *machine.Motor) { o.Body, o.Most = 1, exact.Q{} }),
		foot("at the trunk", 0, api.OK, func(f *machine.Foot) { f.Body = 0 }),
		foot("two at a body", 1, api.OK, func(f *machine.Foot) { f.Body = 2 }),
		foot("no point", 1, api.ErrArg, func(f *machine.Foot) { f.Points = nil }),
		foot("one point", 0, api.OK, func(f *machine.Foot) { f.Points = f.Points[:1] }),
		foot("three points", 0, api.ErrArg, func(f *machine.Foot) { f.Points = points("0 0, 1 0, 2 0") }),
		foot("equal points", 0, api.ErrArg, func(f *machine.Foot) { f.Points = points("1/2 0, 0.5 0") }),
		foot("points with one X", 0, api.OK, func(f *machine.Foot) { f.Points = points("1/2 0, 1/2 1") }),
		foot("points with one Z", 0, api.OK, func(f *machine.Foot) { f.Points = points("1/2 1, -1/2 1") }),
		foot("friction 0", 0, api.OK, func(f *machine.Foot) { f.Friction = exact.Q{} }),
		foot("friction below 0", 1, api.ErrArg, func(f *machine.Foot) { f.Friction = num("-1/1000") }),
	}
	for _, body := range []int{-1, 4, math.MaxInt, math.MinInt} {
		changes = append(changes,
			motor("a body", 1, api.ErrArg, func(o *machine.Motor) { o.Body = body }),
			foot("a body", 1, api.ErrArg, func(f *machine.Foot) { f.Body = body }))
	}
	changes = append(changes, motor("at the trunk", 0, api.ErrArg, func(o *machine.Motor) { o.Body = 0 }))
	expectChanges(t, changes)
}

// withBodies returns the rich machine with n bodies.
func withBodies(n int) machine.Machine {
	m := rich()
	for i := len(m.Bodies); i < n; i++ {
		b := m.Bodies[3]
		b.Name, b.Parent = "more"+strconv.Itoa(i), i-1
		m.Bodies = append(m.Bodies, b)
	}
	return m
}

// repeated returns n copies of the first element of a list.
func repeated[T any](l []T, n int) []T {
	var all []T
	for range n {
		all = append(all, l[0])
	}
	return all
}

// P3.2: as many parts as are allowed, and one more.
func TestCheckLimits(t *testing.T) {
	expectError(t, "12 bodies", machine.Check(withBodies(api.MaxBodies)), api.OK)
	expectError(t, "13 bodies", machine.Check(withBodies(api.MaxBodies+1)), api.ErrLimit)
	m := withBodies(api.MaxBodies + 1)
	m.Bodies[0].Name = ""
	expectError(t, "13 bodies, one without a name", machine.Check(m), api.ErrLimit)
	m = rich()
	m.Bodies = nil
	expectError(t, "no bodies", machine.Check(m), api.ErrArg)
	m.Name = ""
	expectError(t, "no bodies and no name", machine.Check(m), api.ErrName)
	full := withBodies(api.MaxBodies)
	full.Motors = nil
	for i := 1; i < api.MaxBodies; i++ {
		motor := rich().Motors[0]
		motor.Body = i
		full.Motors = append(full.Motors, motor)
	}
	expectError(t, "a motor at each hinge", machine.Check(full), api.OK)
	full.Motors = append(full.Motors, full.Motors[10])
	expectError(t, "as many motors as bodies", machine.Check(full), api.ErrTwice)
	full.Motors = append(full.Motors, full.Motors[10])
	expectError(t, "more motors than bodies", machine.Check(full), api.ErrLimit)
	r := rich()
	expectChanges(t, []change{
		{"8 springs", func(m *machine.Machine) { m.Springs = repeated(r.Springs, 8) }, api.OK},
		{"9 springs", func(m *machine.Machine) { m.Springs = repeated(r.Springs, 9) }, api.ErrLimit},
		{"8 tendons", func(m *machine.Machine) { m.Tendons = repeated(r.Tendons, 8) }, api.OK},
		{"9 tendons", func(m *machine.Machine) { m.Tendons = repeated(r.Tendons, 9) }, api.ErrLimit},
		{"4 motors", func(m *machine.Machine) { m.Motors = repeated(r.Motors, 4) }, api.ErrTwice},
		{"5 motors", func(m *machine.Machine) { m.Motors = repeated(r.Motors, 5) }, api.ErrLimit},
		{"6 feet", func(m *machine.Machine) { m.Feet = repeated(r.Feet, 6) }, api.OK},
		{"7 feet", func(m *machine.Machine) { m.Feet = repeated(r.Feet, 7) }, api.ErrLimit},
		{"nothing else", func(m *machine.Machine) { m.Springs, m.Tendons, m.Motors, m.Feet = nil, nil, nil, nil }, api.OK},
	})
}

// P3.2: of several errors the first one, in the order of the chapter.
func TestCheckOrder(t *testing.T) {
	changes := []change{
		{"a name", func(m *machine.Machine) { m.Name = "1" }, api.ErrName},
		{"13 bodies", func(m *machine.Machine) {
			for len(m.Bodies) <= api.MaxBodies {
				m.Bodies = append(m.Bodies, m.Bodies[3])
			}
		}, api.ErrLimit},
		{"the trunk", func(m *machine.Machine) { m.Bodies[0].Parent = 0 }, api.ErrArg},
		{"a body's name", func(m *machine.Machine) { m.Bodies[1].Name = "" }, api.ErrName},
		{"a name twice", func(m *machine.Machine) { m.Bodies[2].Name = "trunk" }, api.ErrTwice},
		{"a body's mass", func(m *machine.Machine) { m.Bodies[3].Mass = exact.Q{} }, api.ErrArg},
		{"9 springs", func(m *machine.Machine) { m.Springs = repeated(m.Springs, 9) }, api.ErrLimit},
		{"a spring", func(m *machine.Machine) { m.Springs[0].A = m.Springs[0].B }, api.ErrArg},
		{"9 tendons", func(m *machine.Machine) { m.Tendons = repeated(m.Tendons, 9) }, api.ErrLimit},
		{"a tendon", func(m *machine.Machine) { m.Tendons[0].Length = exact.Q{} }, api.ErrArg},
		{"motors", func(m *machine.Machine) { m.Motors = repeated(m.Motors, 14) }, api.ErrLimit},
		{"a motor", func(m *machine.Machine) { m.Motors[0].Most = exact.Q{} }, api.ErrArg},
		{"a motor twice", func(m *machine.Machine) { m.Motors[1].Body = 1 }, api.ErrTwice},
		{"7 feet", func(m *machine.Machine) { m.Feet = repeated(m.Feet, 7) }, api.ErrLimit},
		{"a foot", func(m *machine.Machine) { m.Feet[0].Friction = num("-1") }, api.ErrArg},
	}
	for i, first := range changes {
		for _, second := range changes[i+1:] {
			m := rich()
			first.apply(&m)
			second.apply(&m)
			expectError(t, "Check: "+first.name+", then "+second.name, machine.Check(m), first.want)
			m = rich()
			second.apply(&m)
			first.apply(&m)
			expectError(t, "Check: "+second.name+" after "+first.name, machine.Check(m), first.want)
		}
	}
}

// P3.2: a design whose numbers all have tolerances, or each one alone.
func TestCheckDesign(t *testing.T) {
	d := loose()
	expectError(t, "CheckDesign", machine.CheckDesign(d), api.OK)
	for i := range d.Tolerances {
		alone := machine.Design{Machine: rich(), Tolerances: d.Tolerances[i : i+1]}
		expectError(t, "CheckDesign with one tolerance", machine.CheckDesign(alone), api.OK)
	}
	expectError(t, "CheckDesign without tolerances", machine.CheckDesign(machine.Design{Machine: rich()}), api.OK)
	m := rich()
	for _, s := range spots(&m) {
		d := machine.Design{Machine: rich(), Tolerances: []machine.Tolerance{{Place: s.place, Amount: num("1/100000")}}}
		if isFixed(s.place) {
			expectError(t, "a tolerance of the trunk's place or limits", machine.CheckDesign(d), api.ErrArg)
		}
	}
}

// P3.2: the places of tolerances.
func TestCheckDesignPlaces(t *testing.T) {
	check := func(name string, want api.Errno, l ...machine.Tolerance) {
		t.Helper()
		d := machine.Design{Machine: rich(), Tolerances: l}
		expectError(t, "CheckDesign: "+name, machine.CheckDesign(d), want)
	}
	one := func(kind uint8, index, field, item int) machine.Tolerance {
		return tolerance(kind, index, field, item, "1/100000")
	}
	check("two places", api.OK, one(1, 1, 2, 0), one(5, 1, 2, 0))
	pairs := [][2]machine.Tolerance{
		{one(1, 3, 2, 0), one(2, 0, 0, 0)},
		{one(1, 1, 7, 0), one(1, 2, 0, 0)},
		{one(4, 0, 3, 0), one(4, 1, 0, 0)},
		{one(1, 1, 2, 0), one(1, 1, 3, 0)},
		{one(1, 1, 8, 2), one(1, 1, 9, 0)},
		{one(1, 1, 8, 0), one(1, 1, 8, 1)},
		{one(5, 0, 0, 1), one(5, 0, 1, 0)},
	}
	for _, p := range pairs {
		check("in order", api.OK, p[0], p[1])
		check("not in order", api.ErrArg, p[1], p[0])
		check("twice", api.ErrArg, p[0], p[0])
		check("twice, at the end", api.ErrArg, p[0], p[1], p[1])
	}
	check("not in order, at the end", api.ErrArg, one(1, 1, 2, 0), one(5, 1, 2, 0), one(3, 1, 2, 0))
	for _, place := range [][4]int{
		{0, 0, 2, 0}, {6, 0, 0, 0}, {255, 0, 0, 0}, {1, -1, 2, 0}, {1, 4, 2, 0}, {1, 0, -1, 0}, {1, 0, 10, 0}, {1, 0, 2, 1}, {1, 0, 2, -1},
		{1, 0, 8, 4}, {1, 0, 8, -1}, {1, 2, 8, 0}, {1, 2, 9, 0}, {2, 2, 0, 0}, {2, 0, 5, 0}, {2, 0, 4, 1}, {3, 2, 0, 0}, {3, 0, 5, 0},
		{3, 0, 0, 1}, {4, 2, 0, 0}, {4, 0, 4, 0}, {4, 0, 3, 1}, {5, 2, 0, 0}, {5, 0, 3, 0}, {5, 0, 2, 1}, {5, 1, 0, 1}, {5, 1, 1, 1}, {5, 0, 0, 2},
	} {
		wrong := one(uint8(place[0]), place[1], place[2], place[3])
		check("no place", api.ErrArg, wrong)
		check("a place and none", api.ErrArg, one(1, 0, 2, 0), wrong)
	}
	for _, amount := range []string{"0", "-1/100000"} {
		check("the amount "+amount, api.ErrArg, tolerance(1, 0, 2, 0, amount))
		check("later the amount "+amount, api.ErrArg, one(1, 0, 2, 0), tolerance(1, 0, 3, 0, amount))
	}
}

// P3.2: both extreme machines are valid; the machine's errors come first.
func TestCheckDesignExtremes(t *testing.T) {
	check := func(name string, m machine.Machine, want api.Errno, l ...machine.Tolerance) {
		t.Helper()
		expectError(t, "CheckDesign: "+name, machine.CheckDesign(machine.Design{Machine: m, Tolerances: l}), want)
	}
	check("mass above 0", rich(), api.OK, tolerance(1, 1, 2, 0, "1999/1000"))
	check("mass down to 0", rich(), api.ErrArg, tolerance(1, 1, 2, 0, "2"))
	check("mass below 0", rich(), api.ErrArg, tolerance(1, 1, 2, 0, "3"))
	check("Low up to High", rich(), api.OK, tolerance(1, 1, 6, 0, "8/5"))
	check("Low beyond High", rich(), api.ErrArg, tolerance(1, 1, 6, 0, "9/5"))
	check("High below Low", rich(), api.ErrArg, tolerance(1, 1, 7, 0, "9/5"))
	check("Low and High together", rich(), api.OK, tolerance(1, 1, 6, 0, "9"), tolerance(1, 1, 7, 0, "9"))
	check("Low and High, not together", rich(), api.ErrArg, tolerance(1, 1, 6, 0, "9"), tolerance(1, 1, 7, 0, "7"))
	check("Low and High, less far than the numbers", rich(), api.OK, tolerance(1, 1, 6, 0, "9"), tolerance(1, 1, 7, 0, "8"))
	check("a corner", rich(), api.OK, tolerance(1, 1, 8, 0, "1/1000"))
	check("a corner that goes to the other side", rich(), api.ErrArg, tolerance(1, 1, 8, 0, "10"))
	m := rich()
	m.Feet[0].Points = points("0 0, 1 0")
	check("points that are equal in the end", m, api.ErrArg, tolerance(5, 0, 0, 0, "1"))
	check("points that are equal in the beginning", m, api.ErrArg, tolerance(5, 0, 0, 1, "1"))
	check("points that go through each other", m, api.OK, tolerance(5, 0, 0, 0, "2"))
	m.Name = "1"
	check("a name", m, api.ErrName, tolerance(9, 0, 0, 0, "-1"))
	check("more bodies", withBodies(13), api.ErrLimit, tolerance(9, 0, 0, 0, "-1"))
	m = rich()
	m.Motors[1].Body = 1
	check("a motor twice", m, api.ErrTwice, tolerance(1, 1, 2, 0, "2"))
}

// P3.2: Same compares all fields.
func TestSame(t *testing.T) {
	m := rich()
	if !machine.Same(m, clone(m)) || !machine.Same(m, rich()) {
		t.Error("Same of equal machines")
	}
	expectOther := func(name string, other machine.Machine) {
		t.Helper()
		if machine.Same(m, other) || machine.Same(other, m) || !machine.Same(other, clone(other)) {
			t.Error("Same, changed:", name)
		}
	}
	for i, s := range spots(&m) {
		other := rich()
		*spots(&other)[i].number = s.number.Add(num("1/1000000"))
		expectOther(placeText(s.place), other)
	}
	for _, c := range differences() {
		other := rich()
		c.apply(&other)
		expectOther(c.name, other)
	}
	var none machine.Machine
	empty := machine.Machine{Bodies: []machine.Body{}, Springs: []machine.Spring{}, Tendons: []machine.Tendon{}, Motors: []machine.Motor{}, Feet: []machine.Foot{}}
	if !machine.Same(none, empty) || !machine.Same(none, none) || machine.Same(none, m) {
		t.Error("Same of nothing")
	}
	none.Bodies, empty.Bodies = []machine.Body{{}}, []machine.Body{{Shape: []exact.Point{}}}
	none.Feet, empty.Feet = []machine.Foot{{}}, []machine.Foot{{Points: []exact.Point{}}}
	if !machine.Same(none, empty) || !machine.Same(empty, none) {
		t.Error("Same of empty shapes and feet")
	}
	third := num("1").Add(num("-2/3"))
	none.Bodies[0].Mass, empty.Bodies[0].Mass = third, num("2/6")
	if !machine.Same(none, empty) {
		t.Error("Same of 1/3 and 2/6")
	}
}

// differences returns changes of all that is not a number.
func differences() []change {
	return []change{
		{name: "name", apply: func(m *machine.Machine) { m.Name = "Crab_1" }},
		{name: "body's name", apply: func(m *machine.Machine) { m.Bodies[3].Name = "Arm" }},
		{name: "parent", apply: func(m *machine.Machine) { m.Bodies[3].Parent = 2 }},
		{name: "fewer bodies", apply: func(m *machine.Machine) { m.Bodies = m.Bodies[:3] }},
		{name: "bodies in another order", apply: func(m *machine.Machine) { m.Bodies[1], m.Bodies[3] = m.Bodies[3], m.Bodies[1] }},
		{name: "fewer corners", apply: func(m *machine.Machine) { m.Bodies[0].Shape = m.Bodies[0].Shape[:3] }},
		{name: "no corners", apply: func(m *machine.Machine) { m.Bodies[1].Shape = nil }},
		{name: "a spring's A", apply: func(m *machine.Machine) { m.Springs[0].A = 2 }},
		{name: "a spring's B", apply: func(m *machine.Machine) { m.Springs[1].B = 1 }},
		{name: "fewer springs", apply: func(m *machine.Machine) { m.Springs = m.Springs[:1] }},
		{name: "a tendon's A", apply: func(m *machine.Machine) { m.Tendons[0].A = 3 }},
		{name: "a tendon's B", apply: func(m *machine.Machine) { m.Tendons[1].B = 0 }},
		{name: "fewer tendons", apply: func(m *machine.Machine) { m.Tendons = m.Tendons[:1] }},
		{name: "a motor's body", apply: func(m *machine.Machine) { m.Motors[1].Body = 2 }},
		{name: "fewer motors", apply: func(m *machine.Machine) { m.Motors = m.Motors[:1] }},
		{name: "a foot's body", apply: func(m *machine.Machine) { m.Feet[1].Body = 2 }},
		{name: "fewer feet", apply: func(m *machine.Machine) { m.Feet = m.Feet[:1] }},
		{name: "fewer points", apply: func(m *machine.Machine) { m.Feet[0].Points = m.Feet[0].Points[:1] }},
	}
}
