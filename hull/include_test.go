package hull_test

import (
	"testing"

	"amble/api"
	"amble/exact"
	"amble/hull"
)

// holdsFor checks an inclusion by the definition.
func holdsFor(p, q hull.Poly, i hull.Inclusion) bool {
	if !i.Holds {
		return len(i.Weights) == 0 && hull.Has(p, i.Point) && !hull.Has(q, i.Point)
	}
	if len(i.Point) != 0 || len(i.Weights) != len(q.Rows) {
		return false
	}
	for k, r := range q.Rows {
		left, right := make([]exact.Q, p.N), exact.Q{}
		if len(i.Weights[k]) != len(p.Rows) {
			return false
		}
		for j, weight := range i.Weights[k] {
			if weight.Sign() < 0 {
				return false
			}
			left, right = plus(left, scaled(p.Rows[j].A, weight)), right.Add(weight.Mul(p.Rows[j].B))
		}
		row := compare(left, r.A) == 0 && right.Cmp(r.B) <= 0
		if void := compare(left, make([]exact.Q, p.N)) == 0 && right.Sign() < 0; !row && !void {
			return false
		}
	}
	return true
}

// P2.7: Within, with whether it holds.
func TestWithin(t *testing.T) {
	for _, c := range []struct {
		p, q hull.Poly
		want bool
	}{
		{square(), square(), true}, {square(), poly(2, "1 1 <= 2"), true}, {square(), poly(2, "1 1 <= 199/100"), false}, {square(), poly(2), true}, {poly(2), square(), false},
		{poly(2), poly(2), true}, {poly(2), poly(2, "0 0 <= 0"), true}, {poly(2), poly(2, "0 0 <= -1"), false}, {square(), poly(2, "0 0 <= -1"), false},
		{poly(2, "0 0 <= -1"), square(), true}, {poly(2, "0 0 <= -1"), poly(2, "0 0 <= -2"), true}, {poly(2, "1 0 <= 0", "-1 0 <= -1"), poly(2, "0 1 <= 0", "0 -1 <= -1"), true},
		{poly(2, "1 0 <= 0"), poly(2, "1 0 <= 1"), true}, {poly(2, "1 0 <= 0"), poly(2, "1 0 <= 1", "0 1 <= 1000000"), false}, {poly(2, "1 0 <= 0"), poly(2, "-1 0 <= 7"), false},
		{poly(2, "1 1 <= 1", "-1 -1 <= -1"), poly(2, "2 2 <= 2"), true}, {poly(2, "1 1 <= 1", "-1 -1 <= -1"), poly(2, "1 2 <= 5"), false},
		{poly(0), poly(0), true}, {poly(0), poly(0, "<= -1"), false}, {poly(0, "<= -1"), poly(0, "<= -1", "<= 3"), true}, {poly(0, "<= -1"), poly(0), true}, {poly(0, "<= 1"), poly(0, "<= 0"), true},
	} {
		i, e := hull.Within(c.p, c.q)
		call := polyText(c.p) + " within " + polyText(c.q)
		expectError(t, call, e, api.OK)
		if i.Holds != c.want || !holdsFor(c.p, c.q, i) || !hull.ProveWithin(c.p, c.q, i) {
			t.Error(call, i.Holds, listsText(i.Weights), listText(i.Point))
		}
	}
}

func TestWithinIsRight(t *testing.T) {
	s := source(9)
	count := map[bool]int{}
	for range 2000 {
		n := s.below(4)
		p, q := s.poly(n, 6), s.poly(n, 3)
		i, e := hull.Within(p, q)
		if e != api.OK || !holdsFor(p, q, i) || !hull.ProveWithin(p, q, i) {
			t.Fatal(polyText(p), "within", polyText(q), e, i.Holds, listsText(i.Weights), listText(i.Point))
		}
		count[i.Holds]++
		if i.Holds && len(i.Weights) > 0 {
			k := s.below(len(i.Weights))
			i.Weights[k] = s.changed(i.Weights[k])
		} else {
			i.Point = s.changed(i.Point)
		}
		if s.below(5) == 0 {
			i.Holds = !i.Holds
		}
		if hull.ProveWithin(p, q, i) != holdsFor(p, q, i) {
			t.Fatal("ProveWithin of", polyText(p), polyText(q), i.Holds, listsText(i.Weights), listText(i.Point))
		}
	}
	if count[true] < 300 || count[false] < 300 {
		t.Error("too few of a kind:", count)
	}
}

// P2.7: ProveWithin.
func TestProveWithin(t *testing.T) {
	q, big, void := square(), poly(2, "1 1 <= 3", "2 0 <= 2"), poly(2, "1 0 <= 0", "-1 0 <= -1")
	good := lists("1 0 1 0", "2 0 0 0")
	for name, c := range map[string]struct {
		p, q hull.Poly
		i    hull.Inclusion
		want bool
	}{
		"right":               {q, big, hull.Inclusion{Holds: true, Weights: good}, true},
		"needlessly weak":     {q, big, hull.Inclusion{Holds: true, Weights: lists("3/2 1/2 1 0", "2 0 0 0")}, true},
		"too weak":            {q, big, hull.Inclusion{Holds: true, Weights: lists("4 3 1 0", "2 0 0 0")}, false},
		"other order":         {q, big, hull.Inclusion{Holds: true, Weights: lists("2 0 0 0", "1 0 1 0")}, false},
		"too few lists":       {q, big, hull.Inclusion{Holds: true, Weights: good[:1]}, false},
		"too many lists":      {q, big, hull.Inclusion{Holds: true, Weights: lists("1 0 1 0", "2 0 0 0", "0 0 0 0")}, false},
		"a short list":        {q, big, hull.Inclusion{Holds: true, Weights: lists("1 0 1", "2 0 0 0")}, false},
		"a long list":         {q, big, hull.Inclusion{Holds: true, Weights: lists("1 0 1 0 0", "2 0 0 0")}, false},
		"a point":             {q, big, hull.Inclusion{Holds: true, Weights: good, Point: ints(1, 1)}, false},
		"a negative weight":   {q, poly(2, "-1 0 <= 0"), hull.Inclusion{Holds: true, Weights: lists("-1 0 0 0")}, false},
		"not denied":          {q, big, hull.Inclusion{Weights: good}, false},
		"denied":              {big, q, hull.Inclusion{Point: ints(-1, 0)}, true},
		"denied wrongly":      {big, q, hull.Inclusion{Point: ints(1, 1)}, false},
		"denied elsewhere":    {big, q, hull.Inclusion{Point: ints(2, 0)}, false},
		"denied with weights": {big, q, hull.Inclusion{Point: ints(-1, 0), Weights: good}, false},
		"denied with nothing": {big, q, hull.Inclusion{}, false},
		"denied with less":    {big, q, hull.Inclusion{Point: ints(-1)}, false},
		"void":                {void, big, hull.Inclusion{Holds: true, Weights: lists("1 1", "2 2")}, true},
		"void and a row":      {void, poly(2, "1 0 <= 0"), hull.Inclusion{Holds: true, Weights: lists("1 0")}, true},
		"void, not shown":     {void, big, hull.Inclusion{Holds: true, Weights: lists("1 1", "2 1")}, false},
		"void, with zeros":    {void, big, hull.Inclusion{Holds: true, Weights: lists("1 1", "0 0")}, false},
		"no rows":             {q, poly(2), hull.Inclusion{Holds: true}, true},
		"no rows, some lists": {q, poly(2), hull.Inclusion{Holds: true, Weights: lists("0 0 0 0")}, false},
		"no rows, denied":     {q, poly(2), hull.Inclusion{Point: ints(0, 0)}, false},
		"dimensions":          {q, poly(1), hull.Inclusion{Holds: true}, false},
		"dimension 0":         {poly(0), poly(0, "<= -1"), hull.Inclusion{}, true},
		"dimension 0, holds":  {poly(0), poly(0), hull.Inclusion{}, false},
	} {
		if hull.ProveWithin(c.p, c.q, c.i) != c.want {
			t.Error("ProveWithin:", name)
		}
	}
}

// P2.9: Separate.
func TestSeparate(t *testing.T) {
	s := source(10)
	count := map[api.Errno]int{}
	check := func(p, q hull.Poly) {
		t.Helper()
		meet, _ := hull.Meet(p, q)
		r, e := hull.Separate(p, q)
		count[e]++
		if !isVoid(t, meet) {
			expectError(t, "Separate", e, api.ErrNone)
			expect(t, "Separate", rowText(r), " <= 0")
			return
		}
		expectError(t, "Separate", e, api.OK)
		if !separates(t, r, p, q) {
			t.Error("Separate of", polyText(p), "and", polyText(q), "is", rowText(r))
		}
	}
	for range 2000 {
		n := s.below(4)
		check(s.poly(n, 4), s.poly(n, 4))
	}
	if count[api.OK] < 300 || count[api.ErrNone] < 300 {
		t.Error("too few of a kind:", count)
	}
	check(square(), poly(2, "-1 0 <= -2"))
	check(square(), poly(2, "-1 0 <= -1")) // they touch
	check(poly(2, "1 -1 <= 0"), poly(2, "-1 1 <= -1/1000"))
	check(poly(2, "0 0 <= -1"), poly(2))
	check(poly(2), poly(2, "0 0 <= -1"))
	check(poly(2, "0 0 <= -1"), poly(2, "0 0 <= -1"))
	check(poly(0), poly(0, "<= -1"))
	check(poly(0), poly(0))
	full := valid()["full"] // with the rows of the other one there are more than 200
	r, e := hull.Separate(full, box(12, 1, 2))
	expectError(t, "Separate of as many rows as are allowed", e, api.OK)
	if !separates(t, r, full, box(12, 1, 2)) {
		t.Error("Separate of as many rows as are allowed:", rowText(r))
	}
	_, e = hull.Separate(full, full)
	expectError(t, "Separate of as many rows as are allowed", e, api.ErrNone)
}

// separates reports whether a row is true for all points of p and none of q.
func separates(t *testing.T, r hull.Row, p, q hull.Poly) bool {
	t.Helper()
	inside, e := hull.Within(p, hull.Poly{N: p.N, Rows: []hull.Row{r}})
	if e != api.OK || len(r.A) != p.N {
		return false
	}
	return inside.Holds && isVoid(t, hull.Poly{N: q.N, Rows: append([]hull.Row{r}, q.Rows...)})
}

func TestIncludeErrors(t *testing.T) {
	check := func(name string, p, q hull.Poly) {
		t.Helper()
		i, e := hull.Within(p, q)
		r, f := hull.Separate(p, q)
		if e != api.ErrArg || f != api.ErrArg || i.Holds || len(i.Weights) != 0 || len(i.Point) != 0 || len(r.A) != 0 {
			t.Error(name, e, f)
		}
		if hull.ProveWithin(p, q, hull.Inclusion{Holds: true}) || hull.ProveWithin(p, q, hull.Inclusion{}) || hull.ProveWithin(p, q, hull.Inclusion{Point: ints(5)}) {
			t.Error("a proof about", name)
		}
	}
	for _, p := range invalid() {
		for _, q := range []hull.Poly{p, square(), poly(1), poly(0)} {
			check("an invalid polyhedron", p, q)
			check("an invalid polyhedron", q, p)
		}
	}
	check("different dimensions", poly(1, "1 <= 4"), poly(2))
	check("different dimensions, one void", poly(1, "0 <= -1"), poly(0, "<= -1"))
}
