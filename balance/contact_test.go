package balance_test

import (
	"testing"

	"amble/api"
	"amble/balance"
	"amble/exact"
	"amble/hull"
)

// many returns so many valid contacts.
func many(n int) []balance.Contact {
	var l []balance.Contact
	for i := range n {
		l = append(l, balance.Contact{At: exact.Point{X: exact.Int(int64(i))}, Ground: at("1 0")})
	}
	return l
}

// P7.1: which contacts and weights are valid, and which error is the first.
func TestCheck(t *testing.T) {
	for _, c := range []struct {
		name   string
		l      []balance.Contact
		weight string
		want   api.Errno
	}{
		{"no contacts", nil, "1", api.OK},
		{"MaxContacts contacts", many(api.MaxContacts), "1/1000", api.OK},
		{"one more", many(api.MaxContacts + 1), "1", api.ErrLimit},
		{"one more, and no weight", many(api.MaxContacts + 1), "0", api.ErrLimit},
		{"one more, not valid", append(many(api.MaxContacts), balance.Contact{}), "1", api.ErrLimit},
		{"no weight", feet(), "0", api.ErrArg},
		{"a weight below 0", feet(), "-1/1000", api.ErrArg},
		{"no contacts, no weight", nil, "0", api.ErrArg},
		{"a long ground", contacts("0 0 1000 0 0 0"), "1", api.OK},
		{"a short ground", contacts("0 0 1/1000 0 0 0"), "1", api.OK},
		{"a wall", contacts("0 0 0 1 0 0"), "1", api.OK},
		{"a ceiling", contacts("0 0 -1 0 0 0"), "1", api.OK},
		{"a ground of 0", contacts("0 0 0 0 0 0"), "1", api.ErrArg},
		{"a ground of 0 behind others", contacts("0 0 1 0 0 0, 3 4 0 0 1 1"), "1", api.ErrArg},
		{"much friction, a great limit", contacts("0 0 1 0 1000 1000"), "1", api.OK},
		{"friction below 0", contacts("0 0 1 0 -1/1000 0"), "1", api.ErrArg},
		{"a limit below 0", contacts("0 0 1 0 0 0, 0 0 1 0 0 -1/1000"), "1", api.ErrArg},
	} {
		weight := num(c.weight)
		expectError(t, "Check of "+c.name, balance.Check(c.l, weight), c.want)
		p, e := balance.System(c.l, weight, exact.Q{})
		expectError(t, "System of "+c.name, e, c.want)
		if c.want == api.OK {
			continue
		}
		expect(t, "System of "+c.name, polyText(p), "0;")
		expectBool(t, "Balanced by "+c.name, balance.Balanced(c.l, weight, exact.Q{}, make([]exact.Q, 2*len(c.l))), false)
		_, e = balance.Forces(c.l, weight, exact.Q{})
		expectError(t, "Forces of "+c.name, e, c.want)
		_, e = balance.Falls(c.l, weight, exact.Q{})
		expectError(t, "Falls of "+c.name, e, c.want)
		_, _, _, _, e = balance.Support(c.l, weight)
		expectError(t, "Support of "+c.name, e, c.want)
	}
}

// P7.1: the force of a contact, also of one that is not valid.
func TestForce(t *testing.T) {
	for _, c := range []struct{ contact, n, t, want string }{
		{"7 8 1 0 1 1", "1", "0", "(0 1)"},
		{"7 8 1 0 1 1", "0", "1", "(1 0)"},
		{"7 8 1 0 1 1", "3", "-2", "(-2 3)"},
		{"7 8 0 1 1 1", "3", "-2", "(-3 -2)"},
		{"7 8 -1 0 1 1", "3", "-2", "(2 -3)"},
		{"7 8 3 4 1 1", "1/2", "2", "(4 19/2)"},
		{"0 0 0 0 -1 -1", "5", "6", "(0 0)"},
		{"0 0 3 4 -1 -1", "-1", "0", "(4 -3)"},
	} {
		f := balance.Force(contacts(c.contact)[0], num(c.n), num(c.t))
		expect(t, "Force of "+c.contact+" for "+c.n+" "+c.t, pointText(f), c.want)
	}
}

// both adds an equation to rows: as it is, and negated.
func both(rows []hull.Row, a []exact.Q, b exact.Q) []hull.Row {
	var minus []exact.Q
	for _, q := range a {
		minus = append(minus, q.Neg())
	}
	return append(rows, hull.Row{A: a, B: b}, hull.Row{A: minus, B: b.Neg()})
}

// system is the system as the chapter writes it.
func system(l []balance.Contact, weight, x exact.Q) hull.Poly {
	p := hull.Poly{N: 2 * len(l)}
	one := num("1")
	var across, up, around []exact.Q
	for i, c := range l {
		say := func(n, t, b exact.Q) {
			a := make([]exact.Q, p.N)
			a[2*i], a[2*i+1] = n, t
			p.Rows = append(p.Rows, hull.Row{A: a, B: b})
		}
		say(one.Neg(), exact.Q{}, exact.Q{})
		say(c.Friction.Neg(), one, exact.Q{})
		say(c.Friction.Neg(), one.Neg(), exact.Q{})
		if c.Most.Sign() != 0 {
			say(c.Ground.X, c.Ground.Z, c.Most)
		}
		across = append(across, c.Ground.Z.Neg(), c.Ground.X)
		up = append(up, c.Ground.X, c.Ground.Z)
		// At x (-Z, X) and At x (X, Z).
		around = append(around, c.At.X.Mul(c.Ground.X).Add(c.At.Z.Mul(c.Ground.Z)), c.At.X.Mul(c.Ground.Z).Sub(c.At.Z.Mul(c.Ground.X)))
	}
	p.Rows = both(p.Rows, across, exact.Q{})
	p.Rows = both(p.Rows, up, weight)
	p.Rows = both(p.Rows, around, weight.Mul(x))
	return p
}

// P7.1: the rows of the system, and their order.
func TestSystem(t *testing.T) {
	p, e := balance.System(contacts("2 3 4 5 1/2 7"), num("10"), num("6"))
	expectOK(t, "System of one contact", polyText(p), e, "2;[-1 0]0;[-1/2 1]0;[-1/2 -1]0;[4 5]7;"+
		"[-5 4]0;[5 -4]0;[4 5]10;[-4 -5]-10;[23 -2]60;[-23 2]-60;")
	p, e = balance.System(feet(), num("10"), num("1/4"))
	expectOK(t, "System of the feet", polyText(p), e, "4;"+
		"[-1 0 0 0]0;[-1/2 1 0 0]0;[-1/2 -1 0 0]0;[0 0 -1 0]0;[0 0 -1/2 1]0;[0 0 -1/2 -1]0;"+
		"[0 1 0 1]0;[0 -1 0 -1]0;[1 0 1 0]10;[-1 0 -1 0]-10;[0 0 1 0]5/2;[0 0 -1 0]-5/2;")
	p, e = balance.System(nil, num("2"), num("3"))
	expectOK(t, "System of no contacts", polyText(p), e, "0;[]0;[]0;[]2;[]-2;[]6;[]-6;")
	s := source(700)
	for range 100 {
		x, place := s.stance(api.MaxContacts), s.number()
		p, e := balance.System(x.l, x.weight, place)
		expectOK(t, "System of "+x.text(), polyText(p), e, polyText(system(x.l, x.weight, place)))
	}
}

// isHeld reports whether forces hold a weight at x, by their sums.
func isHeld(l []balance.Contact, weight, x exact.Q, forces []exact.Q) bool {
	var across, up, around exact.Q
	for i, c := range l {
		n, t := forces[2*i], forces[2*i+1]
		f := balance.Force(c, n, t)
		if n.Sign() < 0 || t.Abs().Cmp(n.Mul(c.Friction)) > 0 || c.Most.Sign() > 0 && f.Z.Cmp(c.Most) > 0 {
			return false
		}
		across, up, around = across.Add(f.X), up.Add(f.Z), around.Add(c.At.Cross(f))
	}
	return across.Sign() == 0 && up.Cmp(weight) == 0 && around.Cmp(weight.Mul(x)) == 0
}

// P7.1: Balanced, with forces that hold and with such that nearly do.
func TestBalanced(t *testing.T) {
	for _, c := range []struct {
		forces string
		want   bool
	}{
		{"15/2 -5/4 5/2 5/4", true}, {"15/2 0 5/2 0", true}, {"15/2 5/4 5/2 -5/4", true},
		{"15/2 -13/10 5/2 13/10", false}, {"15/2 1 5/2 1", false}, {"8 0 5/2 0", false}, {"5 0 5 0", false},
		{"15/2 0 5/2", false}, {"15/2 0 5/2 0 0", false}, {"", false},
	} {
		got := balance.Balanced(feet(), num("10"), num("1/4"), nums(c.forces))
		expectBool(t, "Balanced with "+c.forces, got, c.want)
	}
	expectBool(t, "Balanced by nothing", balance.Balanced(nil, num("1"), exact.Q{}, nil), false)
	expectBool(t, "Balanced with a push down", balance.Balanced(feet(), num("10"), num("2"), nums("-10 0 20 0")), false)
	limited := contacts("0 0 1 0 0 5, 1 0 1 0 0 5")
	expectBool(t, "Balanced at the limit", balance.Balanced(limited, num("10"), num("1/2"), nums("5 0 5 0")), true)
	expectBool(t, "Balanced above the limit", balance.Balanced(limited, num("10"), num("1/4"), nums("15/2 0 5/2 0")), false)
	s := source(701)
	held := 0
	for range 150 {
		x := s.sure(api.MaxContacts)
		low, _, _, _, _ := balance.Support(x.l, x.weight)
		forces, e := balance.Forces(x.l, x.weight, low)
		if e != api.OK {
			forces = s.numbers(2 * len(x.l))
		}
		i := s.below(len(forces))
		for _, tried := range [][]exact.Q{forces, with(forces, i, s.number()), with(forces, i, forces[i].Add(num("1/1000000")))} {
			want := isHeld(x.l, x.weight, low, tried)
			expectBool(t, "Balanced by "+x.text(), balance.Balanced(x.l, x.weight, low, tried), want)
			if want {
				held++
			}
		}
	}
	if held < 100 {
		t.Error("only", held, "forces hold")
	}
}
