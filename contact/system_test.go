package contact_test

import (
	"testing"

	"amble/api"
	"amble/contact"
	"amble/exact"
)

// puck returns the parts of a mass that slides on a plane and comes down.
func puck() parts {
	return parts{m: unit(2, num("2")), j: mat("0 1, 1 0"), v: nums("1 -3"), mu: nums("1/4"), e: num("1/2")}
}

// rod returns the parts of two masses of which one hits something, and that a
// rod keeps together.
func rod() parts {
	return parts{m: mat("1 0, 0 3"), b: mat("1 -1"), j: mat("-1 0, 0 0"), v: nums("2 -2"), mu: nums("0")}
}

func expectSystem(t *testing.T, name string, p parts, problem, free, lift string) {
	t.Helper()
	s, e := p.assemble()
	expectOK(t, "Assemble of "+name, systemText(s), e, problem+"|"+free+"|"+lift)
	if contact.Check(s.Problem) != api.OK {
		t.Error("the problem of", name, "is not valid")
	}
}

// P5.7: systems whose numbers can be seen.
func TestAssemble(t *testing.T) {
	expectSystem(t, "a puck", puck(), "[1/2 0][0 1/2][-3 1][1/4]1/2", "[1 -3]", "[0 1/2][1/2 0]")
	expectSystem(t, "a rod", rod(), "[1/4 0][0 0][1 0][0]0", "[-1 -1]", "[-1/4 0][-1/4 0]")
	p := rod()
	p.b = mat("1 -1, -2 2, 0 0, 1/3 -1/3")
	expectSystem(t, "a rod that is kept four times", p, "[1/4 0][0 0][1 0][0]0", "[-1 -1]", "[-1/4 0][-1/4 0]")
	p.b = mat("0 0")
	expectSystem(t, "a row that keeps nothing", p, "[1 0][0 0][-2 0][0]0", "[2 -2]", "[-1 0][0 0]")
	p.b = mat("0 2")
	expectSystem(t, "one mass that is held", p, "[1 0][0 0][-2 0][0]0", "[2 0]", "[-1 0][0 0]")
	p.b = mat("1 1, 1 -1")
	expectSystem(t, "what cannot move", p, "[0 0][0 0][0 0][0]0", "[0 0]", "[0 0][0 0]")
	// M (1 2, 2 5) has the inverse (5 -2, -2 1).
	p = parts{m: mat("1 2, 2 5"), j: mat("1 0, 0 1"), v: nums("3 4"), mu: nums("1"), e: num("1")}
	expectSystem(t, "coupled masses", p, "[5 -2][-2 1][3 4][1]1", "[3 4]", "[5 -2][-2 1]")
	p.b = mat("1 0")
	expectSystem(t, "coupled masses of which one is held", p, "[0 0][0 1/5][0 26/5][1]1", "[0 26/5]", "[0 0][0 1/5]")
}

// P5.7: systems without contacts, and without velocities.
func TestAssembleOfLittle(t *testing.T) {
	p := rod()
	p.j, p.mu = nil, nil
	s, e := p.assemble()
	expectOK(t, "Assemble without contacts", systemText(s), e, "[][]0|[-1 -1]|[][]")
	w, e := contact.Speeds(s, nil)
	expectOK(t, "Speeds without contacts", numsText(w), e, "[-1 -1]")
	_, e = contact.Speeds(s, nums("1"))
	expectError(t, "Speeds without contacts, with an impulse", e, api.ErrArg)
	p.b = nil
	expectSystem(t, "nothing at all", p, "[][]0", "[2 -2]", "[][]")
	expectSystem(t, "no velocities", parts{}, "[][]0", "[]", "")
	expectSystem(t, "rows of no velocities", parts{b: exact.Mat{nil, nil}}, "[][]0", "[]", "")
	expectSystem(t, "a contact of no velocities", parts{j: exact.Mat{nil, {}}, mu: nums("1"), e: num("1")}, "[0 0][0 0][0 0][1]1", "[]", "")
	w, e = contact.Speeds(contact.System{}, nil)
	expectOK(t, "Speeds of no velocities", numsText(w), e, "[]")
}

// P5.7: the velocities after impulses.
func TestSpeeds(t *testing.T) {
	s, _ := puck().assemble()
	for p, want := range map[string]string{"0 0": "[1 -3]", "6 0": "[1 0]", "9 -2": "[0 3/2]", "-1 1": "[3/2 -7/2]"} {
		w, e := contact.Speeds(s, nums(p))
		expectOK(t, "Speeds with "+p, numsText(w), e, want)
	}
	o, _ := contact.Solve(s.Problem)
	w, e := contact.Speeds(s, o.P)
	expectOK(t, "Speeds of a solution", outcomeText(o)+numsText(w), e, "2[9 -9/4][3/2 -1/8][-1/8 3/2]")
}

// isSum reports whether a list is a sum of rows, each times a number.
func isSum(rows exact.Mat, l []exact.Q) bool {
	columns := make(exact.Mat, len(l))
	for i := range columns {
		for _, row := range rows {
			columns[i] = append(columns[i], row[i])
		}
	}
	_, _, e := exact.Solve(columns, l)
	return e == api.OK
}

// expectHeld compares velocities with what defines them: the bilateral rows
// keep them, and give what is missing in the momentum.
func expectHeld(t *testing.T, p parts, name string, w, momentum []exact.Q) {
	t.Helper()
	if len(w) != len(p.m) {
		t.Fatal(name, "has", len(w), "velocities")
	}
	for _, row := range p.b {
		expect(t, name+": a bilateral row", dot(row, w).Text(), "0")
	}
	if !isSum(p.b, mixed(num("1"), times(p.m, w), num("-1"), momentum)) {
		t.Error(name, "changes the momentum otherwise than by bilateral rows")
	}
}

func column(m exact.Mat, c int) []exact.Q {
	var l []exact.Q
	for _, row := range m {
		l = append(l, row[c])
	}
	return l
}

// P5.7: any systems, also with bilateral rows that depend on each other.
func TestAssembleAny(t *testing.T) {
	s := source(509)
	for range 150 {
		n, contacts := 1+s.below(6), s.below(5)
		p := s.parts(n, s.below(n+2), contacts)
		system, e := p.assemble()
		expectError(t, "Assemble", e, api.OK)
		expectHeld(t, p, "Free", system.Free, times(p.m, p.v))
		if len(system.Lift) != n {
			t.Fatal("Lift has", len(system.Lift), "rows of", n)
		}
		for c, row := range p.j {
			expectHeld(t, p, "Lift", column(system.Lift, c), row)
		}
		x := contact.Problem{V: times(p.j, system.Free), Mu: p.mu, E: p.e}
		for _, row := range p.j {
			var l []exact.Q
			for c := range p.j {
				l = append(l, dot(row, column(system.Lift, c)))
			}
			x.G = append(x.G, l)
		}
		expect(t, "the problem", problemText(system.Problem), problemText(x))
		expectError(t, "Check of the problem", contact.Check(system.Problem), api.OK)
		impulses := s.numbers(2 * contacts)
		w, e := contact.Speeds(system, impulses)
		expectOK(t, "Speeds", numsText(w), e, numsText(sum(system.Free, times(system.Lift, impulses))))
	}
}

// P5.7: what is as no system and no problem needs it.
func TestAssembleErrors(t *testing.T) {
	change := func(spoil func(p *parts)) parts {
		p := rod()
		spoil(&p)
		return p
	}
	for name, p := range map[string]parts{
		"a mass too few":           change(func(p *parts) { p.m = mat("1 0") }),
		"a mass too many":          change(func(p *parts) { p.m = mat("1 0, 0 1, 0 0") }),
		"masses without rows":      change(func(p *parts) { p.m = nil }),
		"masses without columns":   change(func(p *parts) { p.m = exact.Mat{nil, nil} }),
		"rows of other lengths":    change(func(p *parts) { p.m = mat("1 0, 0 1 0") }),
		"three columns":            change(func(p *parts) { p.m = mat("1 0 0, 0 1 0") }),
		"not symmetric":            change(func(p *parts) { p.m = mat("1 1, 0 3") }),
		"not semidefinite":         change(func(p *parts) { p.m = mat("1 2, 2 3") }),
		"below 0":                  change(func(p *parts) { p.m = mat("-1 0, 0 -3") }),
		"below 0, one of them":     change(func(p *parts) { p.m = mat("1 0, 0 -3") }),
		"no inverse":               change(func(p *parts) { p.m = mat("1 0, 0 0") }),
		"no inverse, coupled":      change(func(p *parts) { p.m = mat("1 2, 2 4") }),
		"no mass":                  change(func(p *parts) { p.m = mat("0 0, 0 0") }),
		"a short bilateral row":    change(func(p *parts) { p.b = mat("1 -1, 1") }),
		"a long bilateral row":     change(func(p *parts) { p.b = mat("1 -1 0") }),
		"an empty bilateral row":   change(func(p *parts) { p.b = exact.Mat{nil} }),
		"a short contact row":      change(func(p *parts) { p.j = mat("-1 0, 0") }),
		"a long contact row":       change(func(p *parts) { p.j = mat("-1 0 0, 0 0") }),
		"empty contact rows":       change(func(p *parts) { p.j = exact.Mat{nil, nil} }),
		"a velocity too few":       change(func(p *parts) { p.v = nums("2") }),
		"a velocity too many":      change(func(p *parts) { p.v = nums("2 -2 0") }),
		"no velocities":            change(func(p *parts) { p.v = nil }),
		"a contact row too few":    change(func(p *parts) { p.j = mat("-1 0") }),
		"a contact row too many":   change(func(p *parts) { p.j = mat("-1 0, 0 0, 1 1") }),
		"contact rows too many":    change(func(p *parts) { p.j = mat("-1 0, 0 0, 1 1, 1 1") }),
		"contacts too many":        change(func(p *parts) { p.mu = nums("0 0") }),
		"no contact":               change(func(p *parts) { p.mu = nil }),
		"no contact rows":          change(func(p *parts) { p.j = nil }),
		"friction below 0":         change(func(p *parts) { p.mu = nums("-1/7") }),
		"restitution below 0":      change(func(p *parts) { p.e = num("-1/7") }),
		"restitution above 1":      change(func(p *parts) { p.e = num("8/7") }),
		"five contacts":            change(func(p *parts) { p.mu, p.j = make([]exact.Q, 5), make(exact.Mat, 10) }),
		"a row without velocities": {j: mat("1, 1"), mu: nums("1")},
		"bonds without velocities": {b: mat("1")},
		"speed without masses":     {v: nums("1")},
	} {
		if name == "five contacts" {
			for i := range p.j {
				p.j[i] = nums("0 0")
			}
		}
		s, e := p.assemble()
		expectError(t, "Assemble of "+name, e, api.ErrArg)
		expect(t, "Assemble of "+name, systemText(s), systemText(contact.System{}))
	}
	four := parts{m: unit(1, num("1")), j: mat("0, 0, 0, 0, 0, 0, 0, 0"), v: nums("1"), mu: nums("1 1 1 1"), e: num("1")}
	_, e := four.assemble()
	expectError(t, "Assemble of four contacts", e, api.OK)
}

// P5.7: impulses and lifts that do not fit.
func TestSpeedsErrors(t *testing.T) {
	s, _ := puck().assemble()
	for _, p := range []string{"", "1", "1 2 3", "1 2 3 4"} {
		w, e := contact.Speeds(s, nums(p))
		expectError(t, "Speeds with "+p, e, api.ErrArg)
		expect(t, "Speeds with "+p, numsText(w), "[]")
	}
	for name, lift := range map[string]exact.Mat{
		"no rows":              nil,
		"a row too few":        mat("0 1/2"),
		"a row too many":       mat("0 1/2, 1/2 0, 0 0"),
		"a short row":          mat("0 1/2, 1/2"),
		"a short row at first": mat("0, 1/2 0"),
		"a column too few":     mat("0, 1/2"),
		"a column too many":    mat("0 1/2 0, 1/2 0 0"),
		"no columns":           {nil, nil},
	} {
		changed := s
		changed.Lift = lift
		_, e := contact.Speeds(changed, nums("1 2"))
		expectError(t, "Speeds with "+name, e, api.ErrArg)
	}
	s.Free = nums("1")
	_, e := contact.Speeds(s, nums("1 2"))
	expectError(t, "Speeds with a velocity too few", e, api.ErrArg)
	s.Free = nums("1 2 3")
	_, e = contact.Speeds(s, nums("1 2"))
	expectError(t, "Speeds with a velocity too many", e, api.ErrArg)
	s.Free, s.Lift = nil, nil
	_, e = contact.Speeds(s, nums("1 2"))
	expectError(t, "Speeds without velocities", e, api.ErrArg)
}
