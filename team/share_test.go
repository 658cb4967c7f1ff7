package team_test

import (
	"slices"
	"testing"

	"amble/api"
	"amble/exact"
	"amble/hull"
	"amble/team"
)

// P12.2 to P12.4, and P12.9: the best shares, also without a carrier, and where
// a load can be.

// ends hands over all shares of which all but those of free are Low or High;
// those are 0.
func ends(l []team.Carrier, free []int, take func(shares []exact.Q)) {
	for mask := range 1 << len(l) {
		shares := make([]exact.Q, len(l))
		isNew := true
		for i, c := range l {
			switch isHigh := mask>>i&1 == 1; {
			case slices.Contains(free, i):
				isNew = isNew && !isHigh
			case isHigh:
				shares[i] = c.High
			default:
				shares[i] = c.Low
			}
		}
		if isNew {
			take(shares)
		}
	}
}

// tipping hands over shares among which all corners of the system are: the
// others are at an end, and one or two at different places are what the load
// leaves to them.
func tipping(l []team.Carrier, w team.Load, take func(shares []exact.Q)) {
	at := places(l)
	for i := range l {
		ends(l, []int{i}, func(shares []exact.Q) {
			shares[i] = w.Weight.Sub(exact.Sum(shares...))
			take(shares)
		})
		for k := range i {
			if at[i].Cmp(at[k]) == 0 {
				continue
			}
			ends(l, []int{i, k}, func(shares []exact.Q) {
				weight := w.Weight.Sub(exact.Sum(shares...))
				moment := w.Weight.Mul(w.At).Sub(dot(at, shares))
				shares[i] = over(moment.Sub(at[k].Mul(weight)), at[i].Sub(at[k]))
				shares[k] = weight.Sub(shares[i])
				take(shares)
			})
		}
	}
}

// cheapest returns the best shares and their cost as a text; nothing if there
// are none. The best ones are a corner of the system.
func cheapest(l []team.Carrier, w team.Load) string {
	var shares []exact.Q
	var cost exact.Q
	tipping(l, w, func(x []exact.Q) {
		if !holds(l, w, x) {
			return
		}
		price := dot(costs(l), x)
		order := price.Cmp(cost)
		if shares == nil || order < 0 || order == 0 && slices.CompareFunc(x, shares, exact.Q.Cmp) < 0 {
			shares, cost = slices.Clone(x), price
		}
	})
	return priced(shares, cost)
}

// P12.2 and P12.4: Share and Without, where the best shares are written out.
func TestShare(t *testing.T) {
	cases := []struct{ carriers, load, want string }{
		{"0 0 10 1, 1 0 10 2, 2 0 10 1", "12 1", "6 0 6 for 12"},
		{"0 0 10 1, 1 0 10 1/2, 2 0 10 1", "12 1", "1 10 1 for 7"},
		{"0 0 10 1, 1 3 10 2, 2 0 10 1", "12 1", "9/2 3 9/2 for 15"},
		{"7 0 5 3", "5 7", "5 for 15"},
		{"7 5 5 0", "5 7", "5 for 0"},
		{"7 1 9 2", "1/3 7", ""},
		{"7 0 5 3", "5 6", ""},
		{"7 0 5 3", "6 7", ""},
		{"7 0 5 3, 7 0 6 3", "8 7", "2 6 for 24"},
		{"7 0 5 3, 7 0 6 2", "8 7", "2 6 for 18"},
		{"7 0 5 2, 7 0 6 3", "8 7", "5 3 for 19"},
		{"7 0 5 2, 7 0 6 3", "8 8", ""},
		{"0 0 9 0, 0 0 9 0, 0 0 9 0, 0 0 9 0, 0 0 9 0, 0 0 9 0", "20 0", "0 0 0 2 9 9 for 0"},
		{"0 1 9 0, 0 0 9 1, 0 0 9 0, 0 0 9 1, 0 2 9 0, 0 0 9 0", "20 0", "1 0 1 0 9 9 for 0"},
		{"0 0 10 1, 1 0 10 1, 2 0 10 1", "12 1", "1 10 1 for 12"},
		{"0 0 10 1, 2 0 10 1, 1 0 10 1", "12 1", "1 1 10 for 12"},
		{"1 0 10 1, 0 0 10 1, 2 0 10 1", "12 1", "0 6 6 for 12"},
		{"-1 0 10 3, 3 0 10 5", "4 0", "3 1 for 14"},
		{"-1 0 10 3, 3 0 10 5", "4 4", ""},
		{"-1 0 10 3, 3 0 10 5", "4 -3/2", ""},
		{"-1 0 10 3, 3 0 10 5", "21 1", ""},
		{"0 0 1 1/2, 1 0 1 1/3, 2 0 1 1/5", "3 1", "1 1 1 for 31/30"},
	}
	for _, c := range cases {
		l, w := carriers(c.carriers), load(c.load)
		shares, cost, e := team.Share(l, w)
		expect(t, "cheapest shares of "+caseText(l, w), cheapest(l, w), c.want)
		if c.want == "" {
			expectFailed(t, "Share of "+caseText(l, w), priced(shares, cost), e, api.ErrVoid)
			continue
		}
		expectOK(t, "Share of "+caseText(l, w), priced(shares, cost), e, c.want)
	}
}

// expectShares compares a call with the best shares that are found by trying.
func expectShares(t *testing.T, call string, shares []exact.Q, cost exact.Q, e api.Errno, want string) {
	t.Helper()
	if want == "" {
		expectFailed(t, call, priced(shares, cost), e, api.ErrVoid)
		return
	}
	expectOK(t, call, priced(shares, cost), e, want)
}

// P12.2, P12.4 and P12.9: Share, Without and Spare, compared with what is found
// by trying; what Fails shows.
func TestSharesByTrying(t *testing.T) {
	s := source(1202)
	held, failed, spare := 0, 0, 0
	for range 500 {
		l, w := s.laden(1 + s.below(api.MaxTeam))
		name := caseText(l, w)
		shares, cost, e := team.Share(l, w)
		expectShares(t, "Share of "+name, shares, cost, e, cheapest(l, w))
		if e == api.OK {
			held++
		} else {
			failed++
		}
		expectFails(t, l, w, e == api.ErrVoid)
		var spared []int
		for who := range l {
			want := cheapest(left(l, who), w)
			shares, cost, e := team.Without(l, w, who)
			expectShares(t, "Without of "+name, shares, cost, e, want)
			if want != "" {
				spared = append(spared, who)
			}
		}
		got, e := team.Spare(l, w)
		expectOK(t, "Spare of "+name, intsText(got), e, intsText(spared))
		spare += len(spared)
	}
	if held < 100 || failed < 100 || spare < 100 {
		t.Error("only", held, "loads were held,", failed, "were not, and", spare, "carriers could be spared")
	}
}

// expectFails compares what Fails gives for carriers that cannot, or can, hold
// a load.
func expectFails(t *testing.T, l []team.Carrier, w team.Load, fails bool) {
	t.Helper()
	weights, e := team.Fails(l, w)
	if !fails {
		expectFailed(t, "Fails of "+caseText(l, w), numsText(weights), e, api.ErrNone)
		return
	}
	expectError(t, "Fails of "+caseText(l, w), e, api.OK)
	p, _ := team.System(l, w)
	if len(weights) != len(p.Rows) {
		t.Fatal("Fails gives", len(weights), "weights for", len(p.Rows), "rows")
	}
	a, b := make([]exact.Q, p.N), exact.Q{}
	for i, r := range p.Rows {
		if weights[i].Sign() < 0 {
			t.Error("Fails gives the weight", weights[i].Text())
		}
		b = b.Add(weights[i].Mul(r.B))
		for k := range a {
			a[k] = a[k].Add(weights[i].Mul(r.A[k]))
		}
	}
	if isOther := func(q exact.Q) bool { return q.Sign() != 0 }; slices.ContainsFunc(a, isOther) || b.Sign() >= 0 {
		t.Error("Fails of", caseText(l, w), "gives weights for", numsText(a), "<=", b.Text())
	}
	if !hull.Prove(make([]exact.Q, p.N), p, hull.Answer{Kind: hull.Void, Weights: weights}) {
		t.Error("Fails of", caseText(l, w), "gives no proof")
	}
}

// P12.2: Fails.
func TestFails(t *testing.T) {
	for name, fails := range map[string]bool{
		"0 0 10 1, 1 0 10 2, 2 0 10 1; 12 1":     false,
		"0 0 10 1, 1 0 10 2, 2 0 10 1; 30 1":     false,
		"0 0 10 1, 1 0 10 2, 2 0 10 1; 301/10 1": true,
		"0 0 10 1, 1 0 10 2, 2 0 10 1; 1000 1":   true,
		"0 0 10 1, 1 0 10 2, 2 0 10 1; 30 2":     true,
		"0 0 10 1, 1 0 10 2, 2 0 10 1; 12 2":     true,
		"0 0 10 1, 1 0 10 2, 2 0 10 1; 10 2":     false,
		"0 0 10 1, 1 0 10 2, 2 0 10 1; 10 -1":    true,
		"0 3 10 1, 1 3 10 2, 2 3 10 1; 8 1":      true,
		"3 0 5 0; 5 3":                           false,
		"3 0 5 0; 5 4":                           true,
		"3 0 0 0; 1/1000 3":                      true,
	} {
		l, w := parted(name)
		expectFails(t, l, w, fails)
	}
}

// P12.4: Without, Spare, where the results are written out.
func TestWithout(t *testing.T) {
	cases := []struct {
		name, spare string
		want        []string // of each carrier
	}{
		{"0 0 10 1, 1 0 10 2, 2 0 10 1; 12 1", "1", []string{"", "6 0 6 for 12", ""}},
		{"0 0 10 1, 1 0 10 2, 2 0 10 1; 9 1", "0 1 2", []string{"0 9 0 for 18", "9/2 0 9/2 for 9", "0 9 0 for 18"}},
		{"0 3 10 1, 1 4 10 2, 2 3 10 1; 9 1", "1", []string{"", "9/2 0 9/2 for 9", ""}},
		{"0 3 10 1, 1 4 10 2, 2 3 10 1; 6 1", "1", []string{"", "3 0 3 for 6", ""}},
		{"0 3 10 1, 1 4 10 2, 2 3 10 1; 5 1", "", []string{"", "", ""}},
		{"5 5 9 1, 5 0 2 1, 5 0 2 1; 2 5", "0", []string{"0 0 2 for 2", "", ""}},
		{"3 0 5 1; 5 3", "", []string{""}},
		{"3 5 5 0; 5 3", "", []string{""}},
		{"0 0 4 1, 0 0 5 1; 4 0", "0 1", []string{"0 4 for 4", "4 0 for 4"}},
		{"0 0 4 1, 0 0 5 1; 5 0", "0", []string{"0 5 for 5", ""}},
	}
	for _, c := range cases {
		l, w := parted(c.name)
		spared, e := team.Spare(l, w)
		expectOK(t, "Spare of "+c.name, intsText(spared), e, c.spare)
		for who, want := range c.want {
			shares, cost, e := team.Without(l, w, who)
			expectShares(t, "Without of "+c.name, shares, cost, e, want)
		}
	}
}

// P12.4: carriers that there are not.
func TestWithoutNobody(t *testing.T) {
	for _, who := range []int{-1, 3, 4, 1 << 40, -1 << 63, 1<<63 - 1} {
		for _, w := range []string{"9 1", "1000 1"} {
			shares, cost, e := team.Without(trio(), load(w), who)
			expectFailed(t, "Without", priced(shares, cost), e, api.ErrRange)
		}
	}
}

// whereText returns where a load can be, or nothing.
func whereText(low, high exact.Q, e api.Errno) string {
	if e != api.OK && low.Sign() == 0 && high.Sign() == 0 {
		return ""
	}
	return numsText([]exact.Q{low, high})
}

// P12.3: Where.
func TestWhere(t *testing.T) {
	cases := []struct{ carriers, weight, want string }{
		{"0 0 10 1, 1 0 10 2, 2 0 10 1", "12", "1/6 11/6"},
		{"0 0 10 1, 1 0 10 2, 2 0 10 1", "10", "0 2"},
		{"0 0 10 1, 1 0 10 2, 2 0 10 1", "1/7", "0 2"},
		{"0 0 10 1, 1 0 10 2, 2 0 10 1", "30", "1 1"},
		{"0 0 10 1, 1 0 10 2, 2 0 10 1", "31", ""},
		{"2 1 10 1, 1 2 10 2, 0 3 10 1", "6", "2/3 2/3"},
		{"2 1 10 1, 1 2 10 2, 0 3 10 1", "7", "4/7 6/7"},
		{"2 1 10 1, 1 2 10 2, 0 3 10 1", "5", ""},
		{"-7/2 0 3 0", "3", "-7/2 -7/2"},
		{"-7/2 3 3 0", "3", "-7/2 -7/2"},
		{"-7/2 0 3 0", "4", ""},
		{"-1 0 3 0, -1 0 3 0, 4 0 2 0", "2", "-1 4"},
		{"-1 0 3 0, -1 0 3 0, 4 0 2 0", "8", "1/4 1/4"},
	}
	for _, c := range cases {
		low, high, e := team.Where(carriers(c.carriers), num(c.weight))
		want := api.OK
		if c.want == "" {
			want = api.ErrVoid
		}
		expectError(t, "Where of "+c.carriers+"; "+c.weight, e, want)
		expect(t, "Where of "+c.carriers+"; "+c.weight, whereText(low, high, e), c.want)
	}
	for _, weight := range []string{"0", "-1"} {
		low, high, e := team.Where(trio(), num(weight))
		expectError(t, "Where of the weight "+weight, e, api.ErrArg)
		expect(t, "Where of the weight "+weight, whereText(low, high, e), "")
	}
}

// leaning returns the least X of a load that the carriers can hold: those that
// stand in front get no more than they must; false: they cannot hold it.
func leaning(l []team.Carrier, weight exact.Q) (exact.Q, bool) {
	l = slices.Clone(l)
	slices.SortFunc(l, func(a, b team.Carrier) int { return a.At.Cmp(b.At) })
	shares := each(l, func(c team.Carrier) exact.Q { return c.Low })
	rest := weight.Sub(exact.Sum(shares...))
	if rest.Sign() < 0 {
		return exact.Q{}, false
	}
	for i, c := range l {
		more := exact.Min(rest, c.High.Sub(c.Low))
		shares[i], rest = shares[i].Add(more), rest.Sub(more)
	}
	return over(dot(places(l), shares), weight), rest.Sign() == 0
}

// P12.3: Where, compared with shares that lean to one side.
func TestWhereByLeaning(t *testing.T) {
	s := source(1203)
	found, none := 0, 0
	for range 1000 {
		l, w := s.laden(1 + s.below(api.MaxTeam))
		want, ok := leaning(l, w.Weight)
		mirrored := slices.Clone(l)
		for i := range l {
			mirrored[i].At = l[i].At.Neg()
		}
		most, _ := leaning(mirrored, w.Weight)
		low, high, e := team.Where(l, w.Weight)
		if !ok {
			expectError(t, "Where of "+caseText(l, w), e, api.ErrVoid)
			expect(t, "Where", whereText(low, high, e), "")
			none++
			continue
		}
		expectOK(t, "Where of "+caseText(l, w), whereText(low, high, e), e, numsText([]exact.Q{want, most.Neg()}))
		found++
		for _, at := range []exact.Q{low, high} {
			if _, _, e := team.Share(l, team.Load{Weight: w.Weight, At: at}); e != api.OK {
				t.Error("Share at the end of Where has the error", e)
			}
		}
		if _, _, e := team.Share(l, team.Load{Weight: w.Weight, At: high.Add(num("1/1000"))}); e != api.ErrVoid {
			t.Error("Share behind the end of Where has the error", e)
		}
	}
	if found < 300 || none < 100 {
		t.Error("only", found, "loads had a place, and", none, "had none")
	}
}
