package balance_test

import (
	"testing"

	"amble/api"
	"amble/balance"
	"amble/exact"
	"amble/hull"
	"amble/machine"
	"amble/pose"
)

// P7.2: Forces where contacts hold, Falls where they do not.
func TestForces(t *testing.T) {
	walls := "0 1 0 -1 0 0, 1 0 0 1 0 0" // the first one pushes forward, the second one back
	for _, c := range []struct{ name, contacts, weight, x, want string }{
		{"the chapter's feet", "0 0 1 0 1/2 0, 1 0 1 0 1/2 0", "10", "1/4", "[15/2 -5/4 5/2 5/4]"},
		{"the same at an end", "0 0 1 0 1/2 0, 1 0 1 0 1/2 0", "10", "1", "[0 0 10 0]"},
		{"a ground twice as long", "0 0 2 0 1/2 0, 1 0 2 0 1/2 0", "10", "1/4", "[15/4 -5/8 5/4 5/8]"},
		{"without friction", "0 0 1 0 0 0, 1 0 1 0 0 0", "10", "1/4", "[15/2 0 5/2 0]"},
		{"as much load as there may be", "0 0 1 0 0 15/2, 1 0 1 0 0 0", "10", "1/4", "[15/2 0 5/2 0]"},
		{"a foot too many", "0 0 1 0 0 0, 1 0 1 0 0 0, 2 0 1 0 0 0", "10", "1", "[0 0 10 0 0 0]"},
		{"a slope with enough friction", "0 0 2 -1 1/2 0", "10", "0", "[4 -2]"},
		{"between walls", walls + ", 0 0 1 0 0 0", "10", "-2", "[20 0 20 0 10 0]"},
	} {
		l, weight, x := contacts(c.contacts), num(c.weight), num(c.x)
		forces, e := balance.Forces(l, weight, x)
		expectOK(t, "Forces of "+c.name, numsText(forces), e, c.want)
		weights, e := balance.Falls(l, weight, x)
		expectError(t, "Falls of "+c.name, e, api.ErrNone)
		expect(t, "Falls of "+c.name, numsText(weights), "[]")
	}
	for _, c := range []struct{ name, contacts, weight, x string }{
		{"no contacts", "", "1", "0"},
		{"one contact beside the weight", "0 0 1 0 0 0", "10", "1"},
		{"too far forward", "0 0 1 0 1/2 0, 1 0 1 0 1/2 0", "10", "1001/1000"},
		{"too much load", "0 0 1 0 0 37/5, 1 0 1 0 0 0", "10", "1/4"},
		{"a slope with too little friction", "0 0 2 -1 49/100 0", "10", "0"},
		{"a ceiling", "0 0 -1 0 1 0", "10", "0"},
		{"walls that turn the other way", walls + ", 0 0 1 0 0 0", "10", "1/10"},
	} {
		l, weight, x := contacts(c.contacts), num(c.weight), num(c.x)
		forces, e := balance.Forces(l, weight, x)
		expectError(t, "Forces of "+c.name, e, api.ErrVoid)
		expect(t, "Forces of "+c.name, numsText(forces), "[]")
		weights, e := balance.Falls(l, weight, x)
		expectError(t, "Falls of "+c.name, e, api.OK)
		expectBool(t, "Falls of "+c.name+" shows it", isVoidBy(system(l, weight, x), weights), true)
	}
}

// P7.2: for any stance, Forces gives the least forces that hold, or Falls shows
// that there are none.
func TestAnyForces(t *testing.T) {
	s := source(710)
	holds, falls := 0, 0
	for range 200 {
		x := s.stance(api.MaxContacts)
		place := s.number()
		if low, high, below, above, e := balance.Support(x.l, x.weight); e == api.OK && below && above && s.below(2) == 0 {
			place = s.between(low, high)
		}
		p := system(x.l, x.weight, place)
		forces, e := balance.Forces(x.l, x.weight, place)
		weights, f := balance.Falls(x.l, x.weight, place)
		if e == api.OK {
			holds++
			least, e := hull.Least(p)
			expectOK(t, "Forces of "+x.text(), numsText(forces), e, numsText(least))
			expectBool(t, "the forces hold", isHeld(x.l, x.weight, place, forces), true)
			expectError(t, "Falls of "+x.text(), f, api.ErrNone)
			continue
		}
		falls++
		expectError(t, "Forces of "+x.text(), e, api.ErrVoid)
		expectError(t, "Falls of "+x.text(), f, api.OK)
		expectBool(t, "Falls shows it", isVoidBy(p, weights), true)
	}
	if holds < 40 || falls < 40 {
		t.Error("stances that hold and that fall:", holds, falls)
	}
}

// P7.3: Support, with both ends, one, or none.
func TestSupport(t *testing.T) {
	for _, c := range []struct{ name, contacts, weight, want string }{
		{"the chapter's feet", "0 0 1 0 1/2 0, 1 0 1 0 1/2 0", "10", "0 1 true true"},
		{"one contact", "0 0 1 0 0 0", "10", "0 0 true true"},
		{"one contact elsewhere", "3 5 1 0 1 0", "10", "3 3 true true"},
		{"three feet", "2 0 1 0 0 0, -1 0 1 0 0 0, 1 0 1 0 0 0", "1", "-1 2 true true"},
		{"load limits", "0 0 1 0 0 6, 1 0 1 0 0 8", "10", "2/5 4/5 true true"},
		{"just enough", "0 0 1 0 0 6, 1 0 1 0 0 4", "10", "2/5 2/5 true true"},
		{"a limit above the weight", "0 0 1 0 0 11, 1 0 1 0 0 11", "10", "0 1 true true"},
		{"a slope", "1 0 2 -1 1/2 0", "10", "1 1 true true"},
		{"a wall with friction and a floor", "0 0 1 0 0 0, 0 1 0 -1 1 0", "10", "0 0 true true"},
		{"a slope and a wall", "0 0 1 1 0 0, -1 2 0 -1 0 0", "10", "-2 -2 true true"},
		{"walls with friction", "0 0 0 -1 1 0, 1 0 0 1 1 0", "10", "0 0 false false"},
		{"walls that lean the machine back", "0 1 0 -1 0 0, 1 0 0 1 0 0, 0 0 1 0 0 0", "10", "0 0 false true"},
		{"walls that lean it forward", "0 0 0 -1 0 0, 1 1 0 1 0 0, 2 0 1 0 0 0", "10", "2 0 true false"},
	} {
		low, high, below, above, e := balance.Support(contacts(c.contacts), num(c.weight))
		expectOK(t, "Support of "+c.name, supportText(low, high, below, above), e, c.want)
	}
	for _, c := range []struct{ name, contacts, weight string }{
		{"no contacts", "", "1"},
		{"a ceiling", "0 0 -1 0 5 0", "1"},
		{"a slippery slope", "0 0 2 -1 49/100 0", "1"},
		{"too much load", "0 0 1 0 0 6, 1 0 1 0 0 399/100", "10"},
		{"a wall", "0 0 0 1 10 0", "1"},
	} {
		low, high, below, above, e := balance.Support(contacts(c.contacts), num(c.weight))
		expectError(t, "Support of "+c.name, e, api.ErrVoid)
		expect(t, "Support of "+c.name, supportText(low, high, below, above), "0 0 false false")
	}
}

// P7.3: Support is what is left of forces and places if the forces are cut off.
func TestAnySupport(t *testing.T) {
	s := source(711)
	kinds := map[string]int{}
	for range 150 {
		x := s.stance(4)
		p := system(x.l, x.weight, exact.Q{})
		p.N++
		for i := range p.Rows {
			last := exact.Q{}
			switch i {
			case len(p.Rows) - 2:
				last = x.weight.Neg()
			case len(p.Rows) - 1:
				last = x.weight
			}
			p.Rows[i].A = append(p.Rows[i].A, last)
		}
		places, e := hull.Project(p, []int{2 * len(x.l)})
		expectError(t, "Project", e, api.OK)
		wantLow, wantHigh, wantBelow, wantAbove, wantError := hull.Bounds(nums("1"), places)
		low, high, below, above, e := balance.Support(x.l, x.weight)
		expectError(t, "Support of "+x.text(), e, wantError)
		expect(t, "Support of "+x.text(), supportText(low, high, below, above), supportText(wantLow, wantHigh, wantBelow, wantAbove))
		switch {
		case e == api.ErrVoid:
			kinds["void"]++
		case below != above:
			kinds["half"]++
		case below:
			kinds["whole"]++
		default:
			kinds["open"]++
		}
	}
	for _, kind := range []string{"void", "half", "whole", "open"} {
		if kinds[kind] < 5 {
			t.Error("only", kinds[kind], "stances of the kind", kind)
		}
	}
}

// P7.4: the contacts of a machine, in their order.
func TestContacts(t *testing.T) {
	g := pose.Ground(points("-1 0, 1 0, 2 1, 3 0"))
	m := table(points("-1 -2, 1 -2"), points("2 -1"), points("0 0"), points("3 -2, 5/2 -1"))
	m.Feet[1].Friction = num("3")
	l, e := balance.Contacts(m, pose.Pose{At: at("0 2")}, g)
	expectOK(t, "Contacts of a table", contactsText(l), e,
		"(-1 0)(2 0)1/2 0;(1 0)(1 1)1/2 0;(2 1)(1 -1)3 0;(3 0)(1 0)1/2 0")
	l, e = balance.Contacts(m, pose.Pose{At: at("0 3")}, g)
	expectOK(t, "Contacts in the air", contactsText(l), e, "")
	l, e = balance.Contacts(table(), pose.Pose{At: at("0 -5")}, g)
	expectOK(t, "Contacts without feet", contactsText(l), e, "")
	for _, foot := range []string{"0 -5/2", "0 -2, 1 -2001/1000", "0 -3, 5/2 -1"} {
		l, e := balance.Contacts(table(points("1 -2"), points(foot)), pose.Pose{At: at("0 2")}, g)
		expectError(t, "Contacts below the ground "+foot, e, api.ErrState)
		expect(t, "Contacts below the ground "+foot, contactsText(l), "")
	}
	var eight [][]exact.Point
	for range 4 {
		eight = append(eight, points("-1 -2, 1 -2"))
	}
	l, e = balance.Contacts(table(eight...), pose.Pose{At: at("0 2")}, level())
	expectError(t, "more Contacts than a stance may have", e, api.OK)
	if len(l) != 8 {
		t.Error("there are", len(l), "contacts of 8")
	}
}

// P7.4: Stands.
func TestStands(t *testing.T) {
	for _, c := range []struct {
		name   string
		m      machine.Machine
		at     string
		want   bool
		errors api.Errno
	}{
		{"a table", table(points("-1 -2, 1 -2")), "0 2", true, api.OK},
		{"a table on its edge", table(points("0 -2, 1 -2")), "0 2", true, api.OK},
		{"a table beside its feet", table(points("1/10 -2, 1 -2")), "0 2", false, api.OK},
		{"a table on one foot", table(points("-1 -1, 1 -2")), "0 2", false, api.OK},
		{"a table on two feet", table(points("-1 -2"), points("1 -1, 3 -2")), "0 2", true, api.OK},
		{"in the air", table(points("-1 -2, 1 -2")), "0 3", false, api.OK},
		{"without feet", table(), "0 0", false, api.OK},
		{"in the ground", table(points("-1 -2, 1 -2")), "0 1", false, api.ErrState},
		{"six contacts", table(points("-1 -2, 1 -2"), points("-1 -2, 1 -2"), points("-1 -2, 1 -2")), "0 2", true, api.OK},
		{"seven contacts", table(points("-1 -2, 1 -2"), points("-1 -2, 1 -2"), points("-1 -2, 1 -2"), points("0 -2")), "0 2", false, api.ErrLimit},
		{"seven contacts and one in the ground", table(points("-1 -2, 1 -2"), points("-1 -2, 1 -2"), points("-1 -2, 1 -2"), points("0 -2"), points("0 -3")), "0 2", false, api.ErrState},
		{"far away", table(points("-1 -2, 1 -2")), "1000 2", true, api.OK},
	} {
		is, e := balance.Stands(c.m, pose.Pose{At: at(c.at)}, level())
		expectError(t, "Stands of "+c.name, e, c.errors)
		expectBool(t, "Stands of "+c.name, is, c.want)
	}
	slope := pose.Ground(points("-2 1, 2 -1"))
	m := table(points("-1 -3/2, 1 -5/2"))
	is, e := balance.Stands(m, pose.Pose{At: at("0 2")}, slope)
	expectBool(t, "Stands on a slope", is && e == api.OK, true)
	m.Feet[0].Friction = num("49/100")
	is, e = balance.Stands(m, pose.Pose{At: at("0 2")}, slope)
	expectBool(t, "Stands on a slope with too little friction", !is && e == api.OK, true)
}

// P7.4: the centre of mass is that of all bodies.
func TestStandsWithAnArm(t *testing.T) {
	m := table(points("-1 -2, 1 -2"))
	m.Bodies = append(m.Bodies, machine.Body{Name: "arm", Mass: num("10"), Inertia: num("1"), Centre: at("0 2"), Low: num("-1"), High: num("1")})
	for joint, want := range map[string]bool{"0": true, "-1": true, "1": true, "1/2": true} {
		is, e := balance.Stands(m, pose.Pose{At: at("0 2"), Joints: nums(joint)}, level())
		expectBool(t, "Stands with the arm at "+joint, is && e == api.OK, want)
	}
	m.Bodies[1].Centre = at("0 21/10")
	for joint, want := range map[string]bool{"0": true, "-1": false, "1": false, "1/2": true} {
		is, e := balance.Stands(m, pose.Pose{At: at("0 2"), Joints: nums(joint)}, level())
		expectBool(t, "Stands with the longer arm at "+joint, is && e == api.OK, want)
	}
}

// P7.4: for any machine on any ground, by the gaps of its feet and the system
// of what touches.
func TestAnyStand(t *testing.T) {
	s := source(712)
	seen := map[string]int{}
	for range 300 {
		g := s.landscape()
		heights := []string{"0 0 0 1", "0 1", "0 0 0 0 0 -1/10"}[s.below(3)]
		m, p := s.settled(g, s.below(4), heights)
		var want []balance.Contact
		wantError := api.OK
		soles, _ := pose.Soles(m, p)
		for i, sole := range soles {
			for _, place := range sole {
				height, _ := pose.Height(g, place.X)
				along, _ := pose.Along(g, place.X)
				if place.Z.Cmp(height) < 0 {
					wantError = api.ErrState
				} else if place.Z.Cmp(height) == 0 {
					want = append(want, balance.Contact{At: place, Ground: along, Friction: m.Feet[i].Friction})
				}
			}
		}
		if wantError != api.OK {
			want = nil
			seen["sunk"]++
		}
		l, e := balance.Contacts(m, p, g)
		expectError(t, "Contacts", e, wantError)
		expect(t, "Contacts", contactsText(l), contactsText(want))
		is, e := balance.Stands(m, p, g)
		expectError(t, "Stands", e, wantError)
		weight, _ := machine.Weight(m)
		centre, _ := pose.Centre(m, p)
		if stands := wantError == api.OK && !isVoid(system(want, weight, centre.X)); stands {
			seen["stands"]++
			expectBool(t, "Stands", is, true)
		} else {
			seen["falls"]++
			expectBool(t, "Stands", is, false)
		}
	}
	for _, kind := range []string{"sunk", "stands", "falls"} {
		if seen[kind] < 20 {
			t.Error("only", seen[kind], "machines of the kind", kind)
		}
	}
}

// The errors of Contacts and Stands, in order.
func TestStandErrors(t *testing.T) {
	fits := pose.Pose{At: at("0 2")}
	wide := pose.Pose{At: at("0 2"), Joints: nums("0")}
	nameless, sunk := table(points("0 -2")), table(points("0 -3"))
	nameless.Name = ""
	heavy := table(points("0 -2"))
	heavy.Bodies[0].Mass = exact.Q{}
	var wrong pose.Ground
	for _, c := range []struct {
		name string
		m    machine.Machine
		p    pose.Pose
		g    pose.Ground
		want api.Errno
	}{
		{"a machine without a name, all else wrong", nameless, wide, wrong, api.ErrName},
		{"a machine without mass", heavy, fits, level(), api.ErrArg},
		{"a machine without bodies", machine.Machine{Name: "m"}, fits, level(), api.ErrArg},
		{"a pose that does not fit", table(), wide, level(), api.ErrArg},
		{"a ground that is not valid", table(), fits, wrong, api.ErrArg},
		{"a ground of one point", table(), fits, pose.Ground(points("0 0")), api.ErrArg},
		{"a foot below a ground that is not valid", sunk, fits, pose.Ground(points("0 0, 0 0")), api.ErrArg},
		{"a foot below the ground", sunk, fits, level(), api.ErrState},
	} {
		_, e := balance.Contacts(c.m, c.p, c.g)
		expectError(t, "Contacts of "+c.name, e, c.want)
		_, e = balance.Stands(c.m, c.p, c.g)
		expectError(t, "Stands of "+c.name, e, c.want)
	}
}
