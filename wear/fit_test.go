package wear_test

import (
	"slices"
	"strconv"
	"testing"

	"amble/api"
	"amble/exact"
	"amble/hull"
	"amble/wear"
)

// P11.4 and P11.11: curves that are fitted to records, with proofs.

func expectFit(t *testing.T, knots, bounds, records, want, off string) {
	t.Helper()
	f, e := wear.Fit(nums(knots), limit(bounds), wanted(records))
	call := "Fit of " + knots + " within " + bounds + " to " + records
	expectOK(t, call, numsText(zs(f.Curve)), e, numsText(nums(want)))
	expect(t, call+": the error", f.Off.Text(), num(off).Text())
	if !wear.ProveFit(nums(knots), limit(bounds), wanted(records), f) {
		t.Error(call, "is not accepted")
	}
}

// P11.4: Fit.
func TestFit(t *testing.T) {
	cases := []struct{ knots, limit, records, want, off string }{
		{"0 10", "15 1", "0 0, 10 20", "5 15", "5"},
		{"0 10", "15 2", "0 0, 10 20", "-5 15", "5"},
		{"0 10", "20 2", "0 0, 10 20", "0 20", "0"},
		{"0 10", "20 2", "5 10", "0 20", "0"},
		{"0 10", "20 0", "0 0, 10 20", "10 10", "10"}, // a rate of 0
		{"0 10", "0 5", "0 0, 10 20", "0 0", "20"},    // a moment of 0
		{"0 10", "15 1", "", "-15 -15", "0"},          // no records: the least one
		{"0 10 20", "15 0", "", "-15 -15 -15", "0"},
		{"7", "15 1", "", "-15", "0"}, // one knot
		{"7", "15 1", "-3 4", "4", "0"},
		{"7", "15 1", "-3 4, 7 0, 100 10", "5", "5"},
		{"7", "3 0", "-3 4, 7 0, 100 10", "3", "7"},
		{"7", "15 1", "7 100", "15", "85"},
		{"0 10", "15 1", "-5 3, 15 6", "3 6", "0"},      // beyond the ends
		{"0 10", "15 1", "-5 3, 0 5, 15 6", "4 5", "1"}, // several best ones: the least
		{"0 10", "15 1", "0 3", "3 -7", "0"},
		{"0 10", "15 1", "10 3", "-7 3", "0"},
		{"0 10", "15 10", "5 3", "-9 15", "0"},
		{"0 10 20", "15 1", "10 0", "-10 0 -10", "0"},
		{"0 10", "15 1", "5 1/3, 5 1/2", "-55/12 65/12", "1/12"},
		{"-1/2 1/3", "9 100", "-1/12 1, 1/3 1/7", "13/7 1/7", "0"},
	}
	for _, c := range cases {
		expectFit(t, c.knots, c.limit, c.records, c.want, c.off)
	}
}

// form is a row of a linear program: what is at most B.
func form(most exact.Q, parts ...exact.Q) hull.Row { return hull.Row{A: parts, B: most} }

// minus returns the opposites.
func minus(l []exact.Q) []exact.Q {
	var out []exact.Q
	for _, q := range l {
		out = append(out, q.Neg())
	}
	return out
}

// axis returns the list of n numbers with one that is not 0, at the place i.
func axis(n, i int, q exact.Q) []exact.Q {
	l := make([]exact.Q, n)
	l[i] = q
	return l
}

// tent returns the moment at an angle of the curve that has the moment 1 at a
// knot, and 0 at the others.
func tent(knots []exact.Q, i int, angle exact.Q) exact.Q {
	c := make(wear.Curve, len(knots))
	for k, x := range knots {
		c[k].X = x
	}
	c[i].Z = num("1")
	q, e := wear.At(c, angle)
	if e != api.OK {
		panic("no curve")
	}
	return q
}

// programOf returns the linear program of a fit, as the chapter writes it.
func programOf(knots []exact.Q, l wear.Limit, records []wear.Record) (goal []exact.Q, p hull.Poly) {
	n := len(knots) + 1
	p.N = n
	for i := range knots {
		m := axis(n, i, num("1"))
		p.Rows = append(p.Rows, form(l.Moment, m...), form(l.Moment, minus(m)...))
	}
	for i := range len(knots) - 1 {
		rise := axis(n, i+1, num("1"))
		rise[i] = num("-1")
		most := l.Rate.Mul(knots[i+1].Sub(knots[i]))
		p.Rows = append(p.Rows, form(most, rise...), form(most, minus(rise)...))
	}
	for _, r := range records {
		high, low := make([]exact.Q, n), make([]exact.Q, n)
		for i := range knots {
			high[i] = tent(knots, i, r.Sample.Angle)
			low[i] = high[i].Neg()
		}
		high[n-1], low[n-1] = num("-1"), num("-1")
		p.Rows = append(p.Rows, form(r.Moment, high...), form(r.Moment.Neg(), low...))
	}
	goal = axis(n, n-1, num("-1"))
	p.Rows = append(p.Rows, form(exact.Q{}, goal...))
	return goal, p
}

// isAllowed reports whether a curve keeps to a limit.
func isAllowed(c wear.Curve, l wear.Limit) bool {
	for i, p := range c {
		if p.Z.Abs().Cmp(l.Moment) > 0 {
			return false
		}
		if i > 0 && p.Z.Sub(c[i-1].Z).Abs().Cmp(l.Rate.Mul(p.X.Sub(c[i-1].X))) > 0 {
			return false
		}
	}
	return true
}

// farthest returns the greatest difference of a curve from records.
func farthest(c wear.Curve, records []wear.Record) exact.Q {
	var most exact.Q
	for _, r := range records {
		q, _ := wear.At(c, r.Sample.Angle)
		most = exact.Max(most, q.Sub(r.Moment), r.Moment.Sub(q))
	}
	return most
}

// P11.4 and P11.11: what Fit returns is right by a linear program that is written
// a second time, and the least one by others.
func TestFitIsRight(t *testing.T) {
	s := source(1105)
	held, exactly := 0, 0
	for round := range 250 {
		knots := s.rising(1 + s.below(6))
		if round%25 == 0 {
			knots = s.rising(api.MaxKnots)
		}
		l, records := s.limit(), s.wishes(s.below(9), knots)
		f, e := wear.Fit(knots, l, records)
		expectError(t, "Fit", e, api.OK)
		expect(t, "the knots of a fit", numsText(angles(f.Curve)), numsText(knots))
		if !isAllowed(f.Curve, l) {
			t.Error("the curve", curveText(f.Curve), "is not allowed")
		}
		expect(t, "the error of a fit", f.Off.Text(), farthest(f.Curve, records).Text())
		off, e := wear.OffOf(f.Curve, records)
		expectOK(t, "OffOf", off.Text(), e, f.Off.Text())
		goal, p := programOf(knots, l, records)
		expect(t, "the value of the proof", f.Proof.Value.Text(), f.Off.Neg().Text())
		if f.Proof.Kind != hull.Optimal || !hull.Prove(goal, p, f.Proof) || !wear.ProveFit(knots, l, records, f) {
			t.Error("the proof of a fit is not accepted")
		}
		p.Rows = append(p.Rows, form(f.Off, axis(p.N, p.N-1, num("1"))...))
		for i, z := range zs(f.Curve) {
			low, _, _, _, e := hull.Bounds(axis(p.N, i, num("1")), p)
			expectOK(t, "the least moment of the best curves", z.Text(), e, low.Text())
			p.Rows = append(p.Rows, form(z, axis(p.N, i, num("1"))...))
		}
		if f.Off.Sign() == 0 {
			exactly++
		} else {
			held++
		}
	}
	if held < 50 || exactly < 50 {
		t.Error("only", exactly, "fits without an error,", held, "with one")
	}
}

// angles returns the knots of a curve.
func angles(c wear.Curve) []exact.Q {
	var l []exact.Q
	for _, p := range c {
		l = append(l, p.X)
	}
	return l
}

// allowed returns a curve over knots that keeps to a limit.
func (s *source) allowed(knots []exact.Q, l wear.Limit) wear.Curve {
	var c wear.Curve
	for i, x := range knots {
		z := clamped(l.Moment.Neg(), s.number().Mul(s.one("1 1 3")), l.Moment)
		if i > 0 {
			most := l.Rate.Mul(x.Sub(c[i-1].X))
			z = clamped(c[i-1].Z.Sub(most), z, c[i-1].Z.Add(most))
		}
		c = append(c, exact.Point{X: x, Z: z})
	}
	return c
}

// P11.11: no allowed curve is better.
func TestBest(t *testing.T) {
	s := source(1111)
	for range 150 {
		knots := s.rising(1 + s.below(4))
		l, records := s.limit(), s.wishes(1+s.below(5), knots)
		f, e := wear.Fit(knots, l, records)
		expectError(t, "Fit", e, api.OK)
		for range 30 {
			c := s.allowed(knots, l)
			off, e := wear.OffOf(c, records)
			expectError(t, "OffOf", e, api.OK)
			if off.Cmp(f.Off) < 0 {
				t.Error("the curve", curveText(c), "has the error", off.Text(), "and not", f.Off.Text())
			}
			other := f
			other.Curve = c
			if wear.ProveFit(knots, l, records, other) != (off.Cmp(f.Off) == 0) {
				t.Error("ProveFit of a curve with the error", off.Text(), "instead of", f.Off.Text())
			}
		}
	}
}

// P11.4: as many knots and records as there may be.
func TestGreatFits(t *testing.T) {
	s := source(1106)
	for _, bounds := range []string{"15 6", "5 1", "1000 1000", "3 0"} {
		knots := s.rising(api.MaxKnots)
		records := s.wishes(api.MaxRecords, knots)
		f, e := wear.Fit(knots, limit(bounds), records)
		expectError(t, "Fit of MaxRecords records", e, api.OK)
		if !wear.ProveFit(knots, limit(bounds), records, f) {
			t.Error("a fit of MaxRecords records is not accepted")
		}
		off, e := wear.OffOf(f.Curve, records)
		expectOK(t, "OffOf of MaxRecords records", off.Text(), e, f.Off.Text())
		records = append(records, records[0])
		more, e := wear.Fit(knots, limit(bounds), records)
		expect(t, "Fit of more than MaxRecords records", fittedText(more), fittedText(wear.Fitted{}))
		expectError(t, "Fit of more than MaxRecords records", e, api.ErrLimit)
		off, e = wear.OffOf(f.Curve, records)
		expect(t, "OffOf of more than MaxRecords records", off.Text(), "0")
		expectError(t, "OffOf of more than MaxRecords records", e, api.ErrLimit)
		if wear.ProveFit(knots, limit(bounds), records, f) {
			t.Error("a fit of more than MaxRecords records is accepted")
		}
	}
}

const nineKnots = "1 2 3 4 5 6 7 8 9"

// The errors of Fit and OffOf, in their order; what they refuse ProveFit refuses.
func TestFitErrors(t *testing.T) {
	many := make([]wear.Record, api.MaxRecords+1)
	cases := []struct{ knots, limit string }{
		{"", "1 1"}, {"0 0", "1 1"}, {"1 0", "1 1"}, {"0 2 1", "1 1"}, {"0 1 1", "1 1"}, {nineKnots, "1 1"},
		{"0 1", "-1/9 1"}, {"0 1", "1 -1/9"}, {"0", "-1 -1"},
	}
	for _, c := range cases {
		knots := nums(c.knots)
		var bent wear.Curve
		for _, x := range knots {
			bent = append(bent, exact.Point{X: x})
		}
		isKnots := limit(c.limit).Moment.Cmp(num("1")) != 0 || limit(c.limit).Rate.Cmp(num("1")) != 0
		for _, records := range [][]wear.Record{nil, many} {
			f, e := wear.Fit(knots, limit(c.limit), records)
			expect(t, "Fit of "+c.knots, fittedText(f), fittedText(wear.Fitted{}))
			expectError(t, "Fit of "+c.knots+" within "+c.limit, e, api.ErrArg)
			goal, p := programOf(nums("0 1"), limit("1 1"), nil)
			proof, _ := hull.Maximize(goal, p)
			if wear.ProveFit(knots, limit(c.limit), records, wear.Fitted{Curve: bent, Proof: proof}) {
				t.Error("ProveFit of", c.knots, "within", c.limit)
			}
			if isKnots {
				continue
			}
			off, e := wear.OffOf(bent, records)
			expect(t, "OffOf of "+c.knots, off.Text(), "0")
			expectError(t, "OffOf of "+c.knots, e, api.ErrArg)
		}
	}
	_, e := wear.Fit(nums("0 1"), limit("1 1"), many)
	expectError(t, "Fit of more than MaxRecords records", e, api.ErrLimit)
	_, e = wear.OffOf(curve("0 0"), many)
	expectError(t, "OffOf of more than MaxRecords records", e, api.ErrLimit)
	f, e := wear.Fit(nums("0 1"), limit("1 1"), []wear.Record{{Phase: 77}})
	expectOK(t, "Fit of a record of no phase", numsText(zs(f.Curve)), e, "[0 -1]")
}

// P11.4: OffOf.
func TestOffOf(t *testing.T) {
	cases := []struct{ curve, records, want string }{
		{"0 0, 10 20", "", "0"},
		{"0 0, 10 20", "0 0, 10 20, 5 10, -3 0, 11 20", "0"},
		{"0 0, 10 20", "0 1, 10 18", "2"},
		{"0 0, 10 20", "5 7, 10 18", "3"},
		{"0 0, 10 20", "5 14, 10 18", "4"},
		{"0 0, 10 20", "-1000 -1, 1000 41/2", "1"},
		{"3 7", "2 7, 3 6, 4 15/2", "1"},
	}
	for _, c := range cases {
		got, e := wear.OffOf(curve(c.curve), wanted(c.records))
		expectOK(t, "OffOf of "+c.curve+" and "+c.records, got.Text(), e, c.want)
	}
}

// P11.4: what ProveFit accepts, and what it refuses.
func TestProveFit(t *testing.T) {
	knots, bounds, records := nums("0 10"), limit("15 1"), wanted("0 0, 10 20")
	f, _ := wear.Fit(knots, bounds, records)
	one := num("1")
	changes := map[string]func(f *wear.Fitted){
		"a lesser moment":     func(f *wear.Fitted) { f.Curve[0].Z = f.Curve[0].Z.Sub(one) },
		"a greater moment":    func(f *wear.Fitted) { f.Curve[1].Z = f.Curve[1].Z.Add(one) },
		"another knot":        func(f *wear.Fitted) { f.Curve[1].X = num("11") },
		"another first knot":  func(f *wear.Fitted) { f.Curve[0].X = num("-1") },
		"no curve":            func(f *wear.Fitted) { f.Curve = nil },
		"half a curve":        func(f *wear.Fitted) { f.Curve = f.Curve[:1] },
		"one point more":      func(f *wear.Fitted) { f.Curve = append(f.Curve, exact.Point{X: num("11"), Z: num("15")}) },
		"a lesser error":      func(f *wear.Fitted) { f.Off = num("4") },
		"a greater error":     func(f *wear.Fitted) { f.Off = num("6") },
		"the opposite error":  func(f *wear.Fitted) { f.Off = num("-5") },
		"another value":       func(f *wear.Fitted) { f.Proof.Value = num("-4") },
		"the opposite value":  func(f *wear.Fitted) { f.Proof.Value = num("5") },
		"another kind":        func(f *wear.Fitted) { f.Proof.Kind = hull.Unbounded },
		"no kind":             func(f *wear.Fitted) { f.Proof.Kind = 0 },
		"no weights":          func(f *wear.Fitted) { f.Proof.Weights = nil },
		"other weights":       func(f *wear.Fitted) { f.Proof.Weights[0] = f.Proof.Weights[0].Add(one) },
		"one weight more":     func(f *wear.Fitted) { f.Proof.Weights = append(f.Proof.Weights, exact.Q{}) },
		"no point":            func(f *wear.Fitted) { f.Proof.Point = nil },
		"another point":       func(f *wear.Fitted) { f.Proof.Point[2] = f.Proof.Point[2].Sub(one) },
		"a point with a step": func(f *wear.Fitted) { f.Proof.Point[0] = f.Proof.Point[0].Sub(num("100")) },
		"a ray":               func(f *wear.Fitted) { f.Proof.Ray = nums("0 0 1") },
		"nothing":             func(f *wear.Fitted) { *f = wear.Fitted{} },
	}
	for name, change := range changes {
		other := f
		other.Curve = slices.Clone(f.Curve)
		other.Proof.Point, other.Proof.Weights = slices.Clone(f.Proof.Point), slices.Clone(f.Proof.Weights)
		change(&other)
		if wear.ProveFit(knots, bounds, records, other) {
			t.Error("ProveFit accepts", name)
		}
	}
	for i, other := range [][]wear.Record{nil, wanted("0 0"), wanted("10 20, 0 0"), wanted("0 0, 10 21"), wanted("0 0, 9 20"), wanted("0 0, 10 20, 10 20")} {
		if wear.ProveFit(knots, bounds, other, f) {
			t.Error("ProveFit accepts other records: " + strconv.Itoa(i))
		}
	}
	for _, other := range []string{"14 1", "15 1/2", "15 0", "0 1", "-15 1", "15 -1"} {
		if wear.ProveFit(knots, limit(other), records, f) {
			t.Error("ProveFit accepts the limit", other)
		}
	}
	for _, other := range []string{"", "0", "0 11", "-1 10", "0 10 20", "10 0", "0 5 10"} {
		if wear.ProveFit(nums(other), bounds, records, f) {
			t.Error("ProveFit accepts the knots", other)
		}
	}
	if !wear.ProveFit(knots, bounds, records, f) {
		t.Error("ProveFit refuses what Fit gives")
	}
}

// P11.4: a curve need not be the least one, but it must be allowed.
func TestProveFitOfOthers(t *testing.T) {
	knots, bounds := nums("0 10"), limit("15 1")
	free, _ := wear.Fit(knots, bounds, nil)
	kept, _ := wear.Fit(knots, bounds, wanted("5 3"))
	cases := []struct {
		f              wear.Fitted
		records, other string
		want           bool
	}{
		{free, "", "0 15, 10 15", true},
		{free, "", "0 -15, 10 -5", true},
		{free, "", "0 15, 10 5", true},
		{free, "", "0 15, 10 151/10", false}, // beyond the moment
		{free, "", "0 -151/10, 10 -15", false},
		{free, "", "0 0, 10 101/10", false}, // beyond the rate
		{free, "", "0 0, 10 -101/10", false},
		{kept, "5 3", "0 3, 10 3", true},
		{kept, "5 3", "0 8, 10 -2", true},
		{kept, "5 3", "0 9, 10 -3", false},
		{kept, "5 3", "0 3, 10 4", false},
	}
	for _, c := range cases {
		c.f.Curve = curve(c.other)
		if wear.ProveFit(knots, bounds, wanted(c.records), c.f) != c.want {
			t.Error("ProveFit of the curve", c.other, "for the records", c.records, "should be", c.want)
		}
	}
	worse := kept // a curve with its own error, but not the least one
	worse.Curve, worse.Off = curve("0 3, 10 4"), num("1/2")
	if wear.ProveFit(knots, bounds, wanted("5 3"), worse) {
		t.Error("ProveFit accepts a curve that is not the best")
	}
	moved, _ := wear.Fit(nums("7"), bounds, wanted("0 3"))
	moved.Curve[0].X = num("8")
	if wear.ProveFit(nums("7"), bounds, wanted("0 3"), moved) {
		t.Error("ProveFit accepts another knot where this changes nothing else")
	}
}
