package team_test

import (
	"testing"

	"amble/api"
	"amble/exact"
	"amble/hull"
	"amble/team"
)

// P12.1: carriers and loads that are valid, the system, what holds a load.

// trio is the carriers of the chapter's first example.
func trio() []team.Carrier { return carriers("0 0 10 1, 1 0 10 2, 2 0 10 1") }

// wrongTeams returns carriers and loads of which one part is not valid.
func wrongTeams() map[string]func() ([]team.Carrier, team.Load) {
	all := map[string]func() ([]team.Carrier, team.Load){}
	wrong := func(name, l, w string) {
		all[name] = func() ([]team.Carrier, team.Load) { return carriers(l), load(w) }
	}
	wrong("no carrier", "", "1 0")
	wrong("one carrier more than MaxTeam", "0 0 1 1, 0 0 1 1, 0 0 1 1, 0 0 1 1, 0 0 1 1, 0 0 1 1, 0 0 1 1", "1 0")
	wrong("Low above High", "0 2 1 0 0", "1 0")
	wrong("Low a little above High", "0 1/2 499/1000 0 0", "1/2 0")
	wrong("Low below 0", "0 -1/1000 1 0 0", "1 0")
	wrong("High below 0", "0 0 -1 0 0", "1 0")
	wrong("both below 0", "0 -2 -1 0 0", "1 0")
	wrong("Cost below 0", "0 0 1 -1/1000 0", "1 0")
	wrong("Jump below 0", "0 0 1 0 -1/1000", "1 0")
	wrong("the last Low above High", "0 0 1 0 0, 0 0 1 0 0, 0 1 0 0 0", "1 0")
	wrong("the last Jump below 0", "0 0 1 0 0, 0 0 1 0 -1", "1 0")
	wrong("a weight of 0", "0 0 1 0 0", "0 0")
	wrong("a weight below 0", "0 0 1 0 0", "-1 0")
	wrong("a weight of 0 that would be held", "0 0 0 0 0", "0 3")
	return all
}

// P12.1: Check.
func TestCheck(t *testing.T) {
	for _, c := range []struct{ carriers, load string }{
		{"0 0 1 0 0", "1 0"},
		{"-3 0 0 0 0", "1 -5"},
		{"0 2 2 3 4", "1/1000 7"},
		{"0 0 1 0 0, 0 0 1 0 0, 0 0 1 0 0, 0 0 1 0 0, 0 0 1 0 0, 0 0 1 0 0", "100 0"},
		{"1/3 1/7 1/6 1/5 1/4, -1/3 0 1000000 0 1000000", "1000000 0"},
	} {
		expectError(t, "Check of "+c.carriers, team.Check(carriers(c.carriers), load(c.load)), api.OK)
	}
	for name, wrong := range wrongTeams() {
		expectError(t, "Check with "+name, team.Check(wrong()), api.ErrArg)
	}
}

// P12.1: Check looks at each number of each carrier.
func TestCheckEachCarrier(t *testing.T) {
	l := carriers("0 0 1 0 0, 1 0 1 0 0, 2 0 1 0 0, 3 0 1 0 0, 4 0 1 0 0, 5 0 1 0 0")
	for i, c := range l {
		low, high, cost, jump := c, c, c, c
		low.Low, high.High, cost.Cost, jump.Jump = num("-1"), num("-1"), num("-1"), num("-1")
		for _, wrong := range []team.Carrier{low, high, cost, jump} {
			expectError(t, "Check of "+carriersText([]team.Carrier{wrong}), team.Check(with(l, i, wrong), load("1 0")), api.ErrArg)
		}
	}
}

// Carriers or a load that are not valid come first, whatever else is wrong.
func TestInvalidTeams(t *testing.T) {
	for name, wrong := range wrongTeams() {
		l, w := wrong()
		p, e := team.System(l, w)
		expectError(t, "System with "+name, e, api.ErrArg)
		expect(t, "System with "+name, polyText(p), polyText(hull.Poly{}))
		if team.Holds(l, w, make([]exact.Q, len(l))) {
			t.Error("Holds is true with", name)
		}
		shares, cost, e := team.Share(l, w)
		expectFailed(t, "Share with "+name, priced(shares, cost), e, api.ErrArg)
		weights, e := team.Fails(l, w)
		expectFailed(t, "Fails with "+name, numsText(weights), e, api.ErrArg)
		for _, who := range []int{-1, 0, 7} {
			shares, cost, e = team.Without(l, w, who)
			expectFailed(t, "Without with "+name, priced(shares, cost), e, api.ErrArg)
		}
		spared, e := team.Spare(l, w)
		expectFailed(t, "Spare with "+name, intsText(spared), e, api.ErrArg)
		shares, cost, e = team.Secure(l, w)
		expectFailed(t, "Secure with "+name, priced(shares, cost), e, api.ErrArg)
		nothing := make([]exact.Q, len(l))
		steps, e := team.Shift(l, w, nothing, nothing, times(len(l), num("1")))
		expectFailed(t, "Shift with "+name, listsText(steps), e, api.ErrArg)
		low, high, e := team.Where(l, w.Weight)
		expectError(t, "Where with "+name, e, api.ErrArg)
		expect(t, "Where with "+name, numsText([]exact.Q{low, high}), "0 0")
	}
}

// P12.1: System.
func TestSystem(t *testing.T) {
	cases := []struct{ carriers, load, want string }{
		{"3 1 2 5 6", "7 1/2", "1: -1 <= -1; 1 <= 2; 1 <= 7; -1 <= -7; 3 <= 7/2; -3 <= -7/2"},
		{"0 0 10 1, 1 2 20 2, -2 3 30 1", "12 -1",
			"3: -1 0 0 <= 0; 1 0 0 <= 10; 0 -1 0 <= -2; 0 1 0 <= 20; 0 0 -1 <= -3; 0 0 1 <= 30; " +
				"1 1 1 <= 12; -1 -1 -1 <= -12; 0 1 -2 <= -12; 0 -1 2 <= 12"},
		{"1/2 0 0 0 0, 1/3 4 4 0 0", "1/5 10", "2: -1 0 <= 0; 1 0 <= 0; 0 -1 <= -4; 0 1 <= 4; 1 1 <= 1/5; -1 -1 <= -1/5; 1/2 1/3 <= 2; -1/2 -1/3 <= -2"},
	}
	for _, c := range cases {
		p, e := team.System(carriers(c.carriers), load(c.load))
		expectOK(t, "System of "+c.carriers, polyText(p), e, c.want)
	}
	six := carriers("0 0 1 0, 1 0 1 0, 2 0 1 0, 3 0 1 0, 4 0 1 0, 5 0 1 0")
	p, e := team.System(six, load("1 1"))
	expectError(t, "System of MaxTeam carriers", e, api.OK)
	if p.N != 6 || len(p.Rows) != 16 {
		t.Error("the system of MaxTeam carriers has", p.N, "numbers and", len(p.Rows), "rows")
	}
}

// P12.1: Holds.
func TestHolds(t *testing.T) {
	for shares, want := range map[string]bool{
		"6 0 6": true, "5 2 5": true, "1 10 1": true, "11/2 1 11/2": true,
		"0 12 0": false, "6 0 5": false, "7 0 5": false, "6 0 7": false, "-1 14 -1": false, "11 0 1": false,
		"6 6": false, "6 0 6 0": false, "": false, "12": false,
	} {
		if got := team.Holds(trio(), load("12 1"), nums(shares)); got != want {
			t.Error("Holds of", shares, "is", got)
		}
	}
	if !team.Holds(carriers("4 2 2 0"), load("2 4"), nums("2")) || team.Holds(carriers("4 2 2 0"), load("2 5"), nums("2")) {
		t.Error("Holds of one carrier is wrong")
	}
	if team.Holds(carriers("4 1 3 0"), load("1/2 4"), nums("1/2")) || team.Holds(carriers("4 1 3 0"), load("4 4"), nums("4")) {
		t.Error("Holds is true for a share that is not from Low to High")
	}
}

// P12.1: the points of the system are the shares that hold the load.
func TestSystemHolds(t *testing.T) {
	s := source(1201)
	yes, no := 0, 0
	for range 2000 {
		l, w := s.laden(1 + s.below(api.MaxTeam))
		shares := s.shares(l)
		if s.chance(2) {
			w, _ = burden(l, shares)
		}
		if s.chance(5) {
			shares[s.below(len(l))] = s.number()
		}
		want := w.Weight.Sign() > 0 && holds(l, w, shares)
		if got := team.Holds(l, w, shares); got != want {
			t.Error("Holds of", caseText(l, w), "and", numsText(shares), "is", got)
		}
		p, e := team.System(l, w)
		if hull.Has(p, shares) != want || (e != api.OK) != (w.Weight.Sign() <= 0) {
			t.Error("System of", caseText(l, w), "is wrong for", numsText(shares))
		}
		if want {
			yes++
		} else {
			no++
		}
	}
	if yes < 500 || no < 500 {
		t.Error("only", yes, "loads were held, and", no, "were not")
	}
}
