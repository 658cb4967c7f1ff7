package hull_test

import (
	"testing"

	"amble/api"
	"amble/exact"
	"amble/hull"
)

// isRight checks an answer by the definition.
func isRight(c []exact.Q, p hull.Poly, a hull.Answer) bool {
	sum := func() ([]exact.Q, exact.Q, bool) {
		left, right := make([]exact.Q, p.N), exact.Q{}
		if len(a.Weights) != len(p.Rows) {
			return nil, right, false
		}
		for i, r := range p.Rows {
			if a.Weights[i].Sign() < 0 {
				return nil, right, false
			}
			left, right = plus(left, scaled(r.A, a.Weights[i])), right.Add(a.Weights[i].Mul(r.B))
		}
		return left, right, true
	}
	switch a.Kind {
	case hull.Optimal:
		left, right, ok := sum()
		return ok && hull.Has(p, a.Point) && dot(c, a.Point).Cmp(a.Value) == 0 && compare(left, c) == 0 && right.Cmp(a.Value) == 0 && len(a.Ray) == 0
	case hull.Unbounded:
		return hull.Has(p, a.Point) && hull.Has(directions(p), a.Ray) && dot(c, a.Ray).Sign() > 0 && a.Value.Sign() == 0 && len(a.Weights) == 0
	case hull.Void:
		left, right, ok := sum()
		return ok && compare(left, make([]exact.Q, p.N)) == 0 && right.Sign() < 0 && len(a.Point) == 0 && len(a.Ray) == 0 && a.Value.Sign() == 0
	}
	return false
}

// P2.2: Maximize, with the kind, the value and, where there is only one, the
// point.
func TestMaximize(t *testing.T) {
	for _, c := range []struct {
		goal        string
		p           hull.Poly
		kind        uint8
		value, only string
	}{
		{"1 1", square(), hull.Optimal, "2", "1 1"},
		{"-1 1", square(), hull.Optimal, "1", "0 1"},
		{"0 0", square(), hull.Optimal, "0", ""},
		{"1/2 0", square(), hull.Optimal, "1/2", ""},
		{"1 0", poly(2, "1 0 <= 1"), hull.Optimal, "1", ""},
		{"1 1", poly(2, "1 0 <= 1"), hull.Unbounded, "0", ""},
		{"0 1", poly(2, "1 0 <= 1", "-1 0 <= -2"), hull.Void, "0", ""},
		{"1", poly(1), hull.Unbounded, "0", ""},
		{"0", poly(1), hull.Optimal, "0", ""},
		{"", poly(0), hull.Optimal, "0", ""},
		{"", poly(0, "<= 0", "<= 5"), hull.Optimal, "0", ""},
		{"", poly(0, "<= 0", "<= -1/3"), hull.Void, "0", ""},
		{"1", poly(1, "0 <= -1"), hull.Void, "0", ""},
		{"1", poly(1, "0 <= 0", "3 <= 2"), hull.Optimal, "2/3", "2/3"},
		{"5 4 3", poly(3, "2 3 1 <= 5", "4 1 2 <= 11", "3 4 2 <= 8", "-1 0 0 <= 0", "0 -1 0 <= 0", "0 0 -1 <= 0"), hull.Optimal, "13", "2 0 1"},
		{"3/4 -150 1/50 -6", poly(4, "1/4 -60 -1/25 9 <= 0", "1/2 -90 -1/50 3 <= 0", "0 0 1 0 <= 1", "-1 0 0 0 <= 0", "0 -1 0 0 <= 0", "0 0 -1 0 <= 0", "0 0 0 -1 <= 0"), hull.Optimal, "1/20", "1/25 0 1 0"}, // the simplex method can go round in circles here
		{"1 1", poly(2, "1 1 <= 3", "-1 -1 <= -3"), hull.Optimal, "3", ""},
		{"1 2", poly(2, "1 1 <= 3", "-1 -1 <= -3"), hull.Unbounded, "0", ""},
		{"1 1", poly(2, "1 1 <= 3", "-1 -1 <= -7/2", "1 0 <= 0"), hull.Void, "0", ""},
		{"1", poly(1, "123456789012345678901234567890 <= 1"), hull.Optimal, "1/123456789012345678901234567890", ""},
	} {
		a, e := hull.Maximize(nums(c.goal), c.p)
		call := "Maximize of " + c.goal + " over " + polyText(c.p)
		expectError(t, call, e, api.OK)
		expect(t, call, a.Value.Text(), c.value)
		if a.Kind != c.kind || !isRight(nums(c.goal), c.p, a) || !hull.Prove(nums(c.goal), c.p, a) {
			t.Error(call, "is not right:", a.Kind, listText(a.Point), listText(a.Ray), listText(a.Weights))
		}
		if c.only != "" {
			expect(t, call, listText(a.Point), c.only)
		}
	}
}

func TestMaximizeIsRight(t *testing.T) {
	s := source(2)
	count := map[uint8]int{}
	for range 3000 {
		n := s.below(5)
		p, c := s.poly(n, 8), s.list(n, 3)
		a, e := hull.Maximize(c, p)
		if e != api.OK || !isRight(c, p, a) || !hull.Prove(c, p, a) {
			t.Fatal("Maximize", listText(c), polyText(p), e, a.Kind)
		}
		count[a.Kind]++
	}
	for _, kind := range []uint8{hull.Optimal, hull.Unbounded, hull.Void} {
		if count[kind] < 200 {
			t.Error("too few answers of the kind", kind, count[kind])
		}
	}
}

func TestMaximizeErrors(t *testing.T) {
	for _, c := range []string{"", "1", "1 2 3"} {
		if a, e := hull.Maximize(nums(c), square()); e != api.ErrArg || a.Kind != 0 || len(a.Weights) != 0 {
			t.Error("Maximize with", c, e)
		}
		if _, _, _, _, e := hull.Bounds(nums(c), square()); e != api.ErrArg {
			t.Error("Bounds with", c, e)
		}
	}
	for i, p := range invalid() {
		for _, n := range []int{0, 1, 2, 13} {
			if _, e := hull.Maximize(make([]exact.Q, n), p); e != api.ErrArg {
				t.Error("Maximize over the invalid polyhedron", i, e)
			}
			if _, _, below, above, e := hull.Bounds(make([]exact.Q, n), p); e != api.ErrArg || below || above {
				t.Error("Bounds over the invalid polyhedron", i, e)
			}
			if hull.Prove(make([]exact.Q, n), p, hull.Answer{Kind: hull.Void}) || hull.Prove(make([]exact.Q, n), p, hull.Answer{Kind: hull.Optimal}) {
				t.Error("a proof about the invalid polyhedron", i)
			}
		}
		if x, e := hull.Least(p); e != api.ErrArg || len(x) != 0 {
			t.Error("Least of the invalid polyhedron", i, e)
		}
	}
}

// P2.2: Prove accepts each right answer, also others than Maximize's own.
func TestProve(t *testing.T) {
	q := square()
	for text, want := range map[string]bool{
		"1 2 1 1 | | 1 0 1 0":     true,
		"1 2 1 1 | | 2 1 1 0":     false, // the A is right, the B is 2
		"1 2 1 1 | | 1 0 1 1":     false,
		"1 2 1 1 | | 1 0 1":       false,
		"1 2 1 1 | | 1 0 1 0 0":   false,
		"1 2 1 1 | 0 0 | 1 0 1 0": false,
		"1 2 1 2 | | 1 0 1 0":     false,
		"1 2 2 0 | | 1 0 1 0":     false,
		"1 1 1 0 | | 1 0 1 0":     false,
		"1 2 1 | | 1 0 1 0":       false,
		"1 2 1 1 1 | | 1 0 1 0":   false,
		"0 2 1 1 | | 1 0 1 0":     false,
		"4 2 1 1 | | 1 0 1 0":     false,
		"255 2 1 1 | | 1 0 1 0":   false,
		"2 0 1 1 | 1 1 |":         false,
		"3 0 | | 1 0 1 0":         false,
		"3 0 | | 1 1 0 0":         false,
		"1 2 1 1 | | 0 -1 1 0":    false,
	} {
		if hull.Prove(ints(1, 1), q, answer(text)) != want {
			t.Error("Prove over the square:", text)
		}
	}
	slab := poly(2, "1 0 <= 1", "-1 0 <= 0", "-1 0 <= 1")
	for text, want := range map[string]bool{
		"2 0 1 5 | 0 1 |":    true,
		"2 0 0 -5 | 0 7/2 |": true,
		"2 0 1 5 | 0 -1 |":   false,
		"2 0 1 5 | 0 0 |":    false,
		"2 0 1 5 | 1 1 |":    false,
		"2 0 1 5 | -1 3 |":   false,
		"2 0 2 5 | 0 1 |":    false,
		"2 1 1 5 | 0 1 |":    false,
		"2 0 1 5 | 0 1 | 0":  false,
		"2 0 1 5 | 0 1 1 |":  false,
		"2 0 1 5 | 1 |":      false,
		"2 0 1 | 0 1 |":      false,
		"1 5 1 5 | | 0 0 0":  false,
	} {
		if hull.Prove(ints(0, 1), slab, answer(text)) != want {
			t.Error("Prove over the slab:", text)
		}
	}
	void := poly(1, "2 <= -1", "-1 <= 0", "0 <= -1", "5 <= 9")
	for text, want := range map[string]bool{
		"3 0 | | 1 2 0 0":    true,
		"3 0 | | 0 0 1/2 0":  true,
		"3 0 | | 1 2 1 0":    true,
		"3 0 | | 0 5 0 1":    false,
		"3 0 | | 0 0 0 0":    false,
		"3 0 | | 1 1 0 0":    false,
		"3 0 | | -1 -2 0 0":  false,
		"3 0 | | 1 2 0":      false,
		"3 0 | |":            false,
		"3 -1 | | 1 2 0 0":   false,
		"3 0 0 | | 1 2 0 0":  false,
		"3 0 | 0 | 1 2 0 0":  false,
		"1 0 0 | | 1 2 0 0":  false,
		"2 0 0 | 1 |":        false,
		"2 0 0 | 1 | 1 2 0 ": false,
	} {
		if hull.Prove(ints(1), void, answer(text)) != want {
			t.Error("Prove over a void polyhedron:", text)
		}
	}
	if !hull.Prove(nil, poly(0), hull.Answer{Kind: hull.Optimal}) || hull.Prove(nil, poly(0), hull.Answer{Kind: hull.Unbounded}) || hull.Prove(nil, poly(0), hull.Answer{Kind: hull.Void}) || hull.Prove(nil, poly(0), hull.Answer{}) {
		t.Error("Prove in the dimension 0")
	}
	if hull.Prove(ints(1), square(), answer("1 2 1 1 | | 1 0 1 0")) || hull.Prove(ints(1, 1, 0), square(), answer("1 2 1 1 | | 1 0 1 0")) {
		t.Error("Prove with a goal of another length")
	}
}

// answer returns the answer of a text: kind, value and point, ray, weights.
func answer(text string) hull.Answer {
	parts := fields(text)
	kind, _ := parts[0][0].Int64()
	return hull.Answer{Kind: uint8(kind), Value: parts[0][1], Point: parts[0][2:], Ray: parts[1], Weights: parts[2]}
}

// P2.14: what Prove accepts is true: wrong answers, of which there are many
// near the right ones, are refused.
func TestProveRefuses(t *testing.T) {
	s := source(3)
	for range 2000 {
		n := 1 + s.below(3)
		p, c := s.poly(n, 5), s.list(n, 3)
		a, _ := hull.Maximize(c, p)
		switch s.below(4) {
		case 0:
			a.Value = a.Value.Add(s.small(1))
		case 1:
			a.Point = s.changed(a.Point)
		case 2:
			a.Ray = s.changed(a.Ray)
		case 3:
			a.Weights = s.changed(a.Weights)
		}
		if s.below(8) == 0 {
			a.Kind = uint8(s.below(5))
		}
		if hull.Prove(c, p, a) != isRight(c, p, a) {
			t.Fatal("Prove", listText(c), polyText(p), a.Kind, a.Value.Text(), listText(a.Point), listText(a.Ray), listText(a.Weights))
		}
	}
}

// changed returns a list that is a little different, or the same.
func (s *source) changed(l []exact.Q) []exact.Q {
	if len(l) == 0 || s.below(6) == 0 {
		return append(append([]exact.Q{}, l...), exact.Int(0))
	}
	m := scaled(l, exact.Int(1))
	i := s.below(len(l))
	m[i] = m[i].Add(s.small(1))
	return m
}

// P2.3: Least.
func TestLeast(t *testing.T) {
	for _, c := range []struct {
		p    hull.Poly
		want string
		e    api.Errno
	}{
		{square(), "0 0", api.OK},
		{poly(1, "1 <= 1"), "", api.ErrOpen},
		{poly(2, "1 0 <= 1"), "", api.ErrOpen},
		{poly(1, "-1 <= 3/2"), "-3/2", api.OK},
		{poly(1), "", api.ErrOpen},
		{poly(0), "", api.OK},
		{poly(0, "<= -1"), "", api.ErrVoid},
		{poly(1, "1 <= 0", "-1 <= -1"), "", api.ErrVoid},
		{poly(2, "1 0 <= 0", "-1 0 <= -1"), "", api.ErrVoid},  // void, with lines
		{poly(2, "-1 0 <= 0"), "", api.ErrOpen},               // least x, no least z
		{poly(2, "-1 0 <= 0", "0 -1 <= 0"), "0 0", api.OK},    // no greatest
		{poly(2, "-1 0 <= 0", "-1 -1 <= 0"), "0 0", api.OK},   // z may be low, but not at the least x
		{poly(2, "-1 -1 <= 0", "0 -1 <= 5"), "", api.ErrOpen}, // x has no least value
		{poly(2, "-1 -1 <= 0", "0 1 <= 5"), "-5 5", api.OK},   // the least point is not that of the least z
		{poly(2, "-1 0 <= 0", "0 -1 <= 5", "1 0 <= 3"), "0 -5", api.OK},
		{poly(3, "1 1 1 <= 1", "-1 -1 -1 <= -1", "-1 0 0 <= 0", "0 -1 0 <= 0", "0 0 -1 <= 0"), "0 0 1", api.OK},
	} {
		x, e := hull.Least(c.p)
		expectError(t, "Least of "+polyText(c.p), e, c.e)
		expect(t, "Least of "+polyText(c.p), listText(x), c.want)
	}
}

func TestLeastByCorners(t *testing.T) {
	s := source(4)
	found := map[api.Errno]int{}
	for range 2000 {
		n := 1 + s.below(3)
		p := s.poly(n, 6)
		x, e := hull.Least(p)
		found[e]++
		want, why := leastByCorners(t, p)
		expectError(t, "Least of "+polyText(p), e, why)
		expect(t, "Least of "+polyText(p), listText(x), listText(want))
	}
	if found[api.OK] < 200 || found[api.ErrVoid] < 200 || found[api.ErrOpen] < 200 {
		t.Error("too few of a kind:", found)
	}
}

// leastByCorners returns the least corner, if no direction leads lower.
func leastByCorners(t *testing.T, p hull.Poly) ([]exact.Q, api.Errno) {
	t.Helper()
	if isVoid(t, p) {
		return nil, api.ErrVoid
	}
	if !isPointed(p) {
		return nil, api.ErrOpen
	}
	for _, d := range allRays(p) {
		if compare(d, make([]exact.Q, p.N)) < 0 {
			return nil, api.ErrOpen
		}
	}
	return allCorners(p)[0], api.OK
}

// P2.4: Bounds.
func TestBounds(t *testing.T) {
	for _, c := range []struct {
		goal      string
		p         hull.Poly
		low, high string
	}{
		{"1 1", square(), "0", "2"}, {"-1 2", square(), "-1", "2"}, {"0 0", square(), "0", "0"}, {"0 0", poly(2), "0", "0"},
		{"1 0", poly(2), "", ""}, {"1 0", poly(2, "1 0 <= 5"), "", "5"}, {"-1 0", poly(2, "1 0 <= 5"), "-5", ""}, {"1 1", poly(2, "1 0 <= 5"), "", ""},
		{"", poly(0), "0", "0"}, {"3", poly(1, "2 <= 3", "-2 <= -3"), "9/2", "9/2"},
	} {
		low, high, below, above, e := hull.Bounds(nums(c.goal), c.p)
		call := "Bounds of " + c.goal + " over " + polyText(c.p)
		expectError(t, call, e, api.OK)
		if below != (c.low != "") || above != (c.high != "") {
			t.Error(call, below, above)
		}
		for _, got := range []struct{ value, want string }{{low.Text(), c.low}, {high.Text(), c.high}} {
			if got.want == "" {
				got.want = "0"
			}
			expect(t, call, got.value, got.want)
		}
	}
	for _, p := range []hull.Poly{poly(1, "0 <= -1"), poly(1, "1 <= 0", "-1 <= -1")} {
		low, high, below, above, e := hull.Bounds(ints(1), p)
		expectError(t, "Bounds over "+polyText(p), e, api.ErrVoid)
		if below || above || low.Sign() != 0 || high.Sign() != 0 {
			t.Error("Bounds over a void polyhedron")
		}
	}
}

func TestBoundsByCorners(t *testing.T) {
	s := source(5)
	for range 1000 {
		n := 1 + s.below(3)
		p, c := s.poly(n, 6), s.list(n, 3)
		if isVoid(t, p) || !isPointed(p) {
			continue
		}
		low, high, below, above, e := hull.Bounds(c, p)
		expectError(t, "Bounds", e, api.OK)
		var values []exact.Q
		for _, x := range allCorners(p) {
			values = append(values, dot(c, x))
		}
		wantBelow, wantAbove := true, true
		for _, d := range allRays(p) {
			wantBelow = wantBelow && dot(c, d).Sign() >= 0
			wantAbove = wantAbove && dot(c, d).Sign() <= 0
		}
		least, most := exact.Min(values...), exact.Max(values...)
		if below != wantBelow || above != wantAbove || below && low.Cmp(least) != 0 || above && high.Cmp(most) != 0 || !below && low.Sign() != 0 || !above && high.Sign() != 0 {
			t.Error("Bounds of", listText(c), "over", polyText(p), low.Text(), high.Text(), below, above)
		}
	}
}
