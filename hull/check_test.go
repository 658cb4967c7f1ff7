package hull_test

import (
	"math"
	"testing"

	"amble/api"
	"amble/exact"
	"amble/hull"
)

// invalid returns polyhedra that are not valid.
func invalid() []hull.Poly {
	many := hull.Poly{N: 1}
	for range api.MaxRows + 1 {
		many.Rows = append(many.Rows, row("1 <= 1"))
	}
	return []hull.Poly{
		{N: -1}, {N: api.MaxDim + 1}, {N: math.MaxInt}, {N: math.MinInt}, many,
		{N: 2, Rows: []hull.Row{row("1 <= 1")}}, {N: 0, Rows: []hull.Row{row("1 <= 1")}},
		{N: 1, Rows: []hull.Row{row("1 <= 1"), row("1 2 <= 1")}}, {N: 1, Rows: []hull.Row{{}}},
		{N: -1, Rows: []hull.Row{{}}},
	}
}

// valid returns polyhedra at the edges of what is valid, with the text of the
// least point, or of the error, of each.
func valid() map[string]hull.Poly {
	full := hull.Poly{N: api.MaxDim}
	for i := range api.MaxRows {
		a := make([]exact.Q, api.MaxDim)
		a[i%api.MaxDim] = exact.Int(int64(1 - 2*(i%2)))
		full.Rows = append(full.Rows, hull.Row{A: a, B: exact.Int(int64(i))})
	}
	return map[string]hull.Poly{
		"full": full, "point": {}, "point with a row": poly(0, "<= 0"), "no point": poly(0, "<= 1", "<= -1"), "line": {N: 1}, "all": {N: api.MaxDim},
		"empty rows": {N: 0, Rows: []hull.Row{{}, {A: []exact.Q{}}}},
	}
}

// P2.1: Check.
func TestCheck(t *testing.T) {
	for i, p := range invalid() {
		if e := hull.Check(p); e != api.ErrArg {
			t.Error("Check of the invalid polyhedron", i, e)
		}
	}
	for name, p := range valid() {
		expectError(t, "Check of "+name, hull.Check(p), api.OK)
	}
	expectError(t, "Check", hull.Check(square()), api.OK)
}

// P2.1: Has.
func TestHas(t *testing.T) {
	for x, want := range map[string]bool{
		"0 0": true, "1 1": true, "1/2 1/3": true, "1 1001/1000": false, "-1/1000 1/2": false, "2 2": false,
		"": false, "0": false, "0 0 0": false,
	} {
		if hull.Has(square(), nums(x)) != want {
			t.Error("Has of", x)
		}
	}
	if !hull.Has(poly(0), nil) || !hull.Has(poly(0, "<= 0"), []exact.Q{}) || hull.Has(poly(0, "<= -1"), nil) || hull.Has(poly(0), nums("1")) {
		t.Error("Has in the dimension 0")
	}
	if !hull.Has(poly(1), nums("7")) || hull.Has(poly(1, "0 <= -1"), nums("7")) || !hull.Has(poly(1, "0 <= 0"), nums("7")) {
		t.Error("Has of rows without unknowns")
	}
	for i, p := range invalid() {
		for _, n := range []int{0, 1, 2, 13} {
			if hull.Has(p, make([]exact.Q, n)) {
				t.Error("Has of the invalid polyhedron", i)
			}
		}
	}
}

// P2.8: Meet.
func TestMeet(t *testing.T) {
	m, e := hull.Meet(square(), poly(2), poly(2, "1 1 <= 1", "1 1 <= 1"))
	expectPoly(t, "Meet", m, e, 2, "1 0 <= 1", "-1 0 <= 0", "0 1 <= 1", "0 -1 <= 0", "1 1 <= 1", "1 1 <= 1")
	m, e = hull.Meet(poly(1, "2 <= 4"))
	expectPoly(t, "Meet of one", m, e, 1, "2 <= 4")
	m, e = hull.Meet(poly(0), poly(0, "<= -1"))
	expectPoly(t, "Meet of points", m, e, 0, "<= -1")
	full := valid()["full"]
	m, e = hull.Meet(full, poly(12))
	if e != api.OK || len(m.Rows) != api.MaxRows {
		t.Error("Meet of as many rows as are allowed:", e, len(m.Rows))
	}
	for name, c := range map[string]struct {
		l    []hull.Poly
		want api.Errno
	}{
		"nothing":                  {nil, api.ErrArg},
		"different dimensions":     {[]hull.Poly{poly(1), poly(2)}, api.ErrArg},
		"too many rows":            {[]hull.Poly{full, box(12, 0, 1)}, api.ErrLimit},
		"one row too many":         {[]hull.Poly{full, {N: 12, Rows: full.Rows[:1]}}, api.ErrLimit},
		"too many, and an invalid": {[]hull.Poly{full, full, invalid()[0]}, api.ErrArg},
		"too many, and dimensions": {[]hull.Poly{full, full, poly(1)}, api.ErrArg},
	} {
		m, e := hull.Meet(c.l...)
		expectError(t, "Meet of "+name, e, c.want)
		if m.N != 0 || len(m.Rows) != 0 {
			t.Error("a result with an error:", name)
		}
	}
	for i, p := range invalid() {
		if _, e := hull.Meet(p); e != api.ErrArg {
			t.Error("Meet of the invalid polyhedron", i, e)
		}
	}
}
