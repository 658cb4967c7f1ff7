package hull_test

import (
	"testing"

	"amble/api"
	"amble/exact"
	"amble/hull"
)

// P2.10: Corners.
func TestCorners(t *testing.T) {
	for _, c := range []struct {
		p            hull.Poly
		points, rays string
		e            api.Errno
	}{
		{square(), "[0 0][0 1][1 0][1 1]", "", api.OK},
		{poly(2, "0 0 <= -1"), "", "", api.OK},
		{poly(2, "1 0 <= 0", "-1 0 <= -1"), "", "", api.OK},
		{poly(2), "", "", api.ErrOpen},
		{poly(2, "1 1 <= 0"), "", "", api.ErrOpen},
		{poly(2, "1 1 <= 0", "-1 -1 <= 0"), "", "", api.ErrOpen},
		{poly(0), "[]", "", api.OK},
		{poly(0, "<= 0"), "[]", "", api.OK},
		{poly(0, "<= -1"), "", "", api.OK},
		{poly(1, "-2 <= -3"), "[3/2]", "[1]", api.OK},
		{poly(1, "-2 <= -3", "2 <= 3"), "[3/2]", "", api.OK},
		{poly(2, "-1 0 <= 0", "0 -1 <= 0"), "[0 0]", "[0 1][1 0]", api.OK},
		{poly(2, "-2 3 <= 0", "0 -1 <= -4"), "[6 4]", "[1 0][3 2]", api.OK},
		{poly(2, "-1 0 <= 0", "1 0 <= 1", "0 -1 <= 0"), "[0 0][1 0]", "[0 1]", api.OK},
		{poly(2, "1 1 <= 1", "-1 -1 <= -1", "-1 0 <= 1/3"), "[-1/3 4/3]", "[1 -1]", api.OK},
		{poly(3, "1 1 1 <= 1", "-1 0 0 <= 0", "0 -1 0 <= 0", "0 0 -1 <= 0"), "[0 0 0][0 0 1][0 1 0][1 0 0]", "", api.OK},
		{poly(3, "1 0 1 <= 0", "-1 0 1 <= 0", "0 1 1 <= 0", "0 -1 1 <= 0"), "[0 0 0]", "[-1 -1 -1][-1 1 -1][1 -1 -1][1 1 -1]", api.OK},
	} {
		points, rays, e := hull.Corners(c.p)
		expectError(t, "Corners of "+polyText(c.p), e, c.e)
		expect(t, "corners of "+polyText(c.p), listsText(points), c.points)
		expect(t, "rays of "+polyText(c.p), listsText(rays), c.rays)
	}
}

// P2.10, and P2.16: the corners are those that are found by trying out all
// choices of rows, and their hull is the polyhedron.
func TestCornersByTrying(t *testing.T) {
	s := source(1)
	kinds := map[string]int{}
	for range 2000 {
		n := 1 + s.below(4)
		p := s.poly(n, 5)
		points, rays, e := hull.Corners(p)
		if isVoid(t, p) {
			kinds["void"]++
			expectError(t, "Corners", e, api.OK)
			expect(t, "Corners of a void polyhedron", listsText(points)+listsText(rays), "")
			continue
		}
		if !isPointed(p) {
			kinds["with lines"]++
			expectError(t, "Corners of "+polyText(p), e, api.ErrOpen)
			expect(t, "Corners of a polyhedron with lines", listsText(points)+listsText(rays), "")
			continue
		}
		if len(rays) > 0 {
			kinds["open"]++
		} else {
			kinds["bounded"]++
		}
		expectError(t, "Corners of "+polyText(p), e, api.OK)
		expect(t, "corners of "+polyText(p), listsText(points), listsText(allCorners(p)))
		expect(t, "rays of "+polyText(p), listsText(rays), listsText(allRays(p)))
		back, e := hull.Hull(n, points, rays)
		expectError(t, "Hull", e, api.OK)
		c, e := hull.Canon(p)
		expectError(t, "Canon", e, api.OK)
		expect(t, "Hull of Corners of "+polyText(p), polyText(back), polyText(c))
	}
	for _, kind := range []string{"void", "with lines", "open", "bounded"} {
		if kinds[kind] < 100 {
			t.Error("too few of a kind:", kinds)
		}
	}
}

// cross returns the corners of the cross polytope.
func cross(n int) [][]exact.Q {
	var points [][]exact.Q
	for i := range n {
		for _, k := range []int64{1, -1} {
			x := make([]exact.Q, n)
			x[i] = exact.Int(k)
			points = append(points, x)
		}
	}
	return points
}

// curve returns points of the curve (s, s², s³, ..), with as many numbers.
func curve(n, count int) [][]exact.Q {
	var points [][]exact.Q
	for i := range count {
		x := make([]exact.Q, n)
		power := exact.Int(1)
		for j := range x {
			power = power.Mul(exact.Int(int64(i)))
			x[j] = power
		}
		points = append(points, x)
	}
	return points
}

// P2.10: as many corners as are allowed, and more; in many dimensions their
// number is found without finding them all.
func TestManyCorners(t *testing.T) {
	for n := 1; n <= api.MaxDim; n++ {
		points, rays, e := hull.Corners(box(n, 0, 1))
		if n > 9 {
			expectError(t, "Corners of a box", e, api.ErrLimit)
		} else if e != api.OK || len(points) != 1<<n || len(rays) != 0 {
			t.Error("Corners of a box:", n, e, len(points), len(rays))
		}
	}
	fan := hull.Poly{N: 5} // 126 corners of a polygon, times 8
	fan.Rows = append(fan.Rows, tangents(5, 0, -62, 125)...)
	fan.Rows = append(fan.Rows, row("0 1 0 0 0 <= 1000000"))
	for i := 2; i < 5; i++ {
		up, down := make([]exact.Q, 5), make([]exact.Q, 5)
		up[i], down[i] = exact.Int(1), exact.Int(-1)
		fan.Rows = append(fan.Rows, hull.Row{A: up, B: exact.Int(1)}, hull.Row{A: down})
	}
	points, rays, e := hull.Corners(fan)
	expectError(t, "Corners with 1008 corners", e, api.ErrLimit)
	if len(points) != 0 || len(rays) != 0 {
		t.Error("a result with an error")
	}
	fan.Rows = fan.Rows[1:] // 125 corners, times 8
	points, rays, e = hull.Corners(fan)
	if e != api.OK || len(points) != api.MaxCorners || len(rays) != 0 {
		t.Error("Corners with as many as are allowed:", e, len(points))
	}
	fan.Rows[123] = row("-1 0 0 0 0 <= 100") // open on one side: 124 corners and two rays, times 8 and 1
	fan.Rows[124] = row("1 0 0 0 0 <= 100")
	points, rays, e = hull.Corners(fan)
	if e != api.OK || len(points) != 124*8 || len(rays) != 1 {
		t.Error("Corners of an open polyhedron:", e, len(points), len(rays))
	}
	thousandAndOne := hull.Poly{N: 6} // 7 times 11 times 13 corners
	for i, sides := range []int{7, 11, 13} {
		thousandAndOne.Rows = append(thousandAndOne.Rows, tangents(6, 2*i, -sides/2, sides-1)...)
		top := make([]exact.Q, 6)
		top[2*i+1] = exact.Int(1)
		thousandAndOne.Rows = append(thousandAndOne.Rows, hull.Row{A: top, B: exact.Int(10000)})
	}
	_, _, e = hull.Corners(thousandAndOne)
	expectError(t, "Corners with one more than is allowed", e, api.ErrLimit)
	thousandAndOne.Rows = thousandAndOne.Rows[1:] // 6 times 11 times 13
	points, rays, e = hull.Corners(thousandAndOne)
	if e != api.OK || len(points) != 858 || len(rays) != 0 {
		t.Error("Corners of a product:", e, len(points), len(rays))
	}
	s := source(11)
	dense := hull.Poly{N: 10}
	for range 150 {
		dense.Rows = append(dense.Rows, hull.Row{A: s.list(10, 9), B: exact.Int(20)})
	}
	dense.Rows = append(dense.Rows, box(10, -9, 9).Rows...)
	_, _, e = hull.Corners(dense)
	expectError(t, "Corners of many rows that look random", e, api.ErrLimit)
}

// P2.10: rays count, too.
func TestManyRays(t *testing.T) {
	cone := hull.Poly{N: 6, Rows: box(6, 0, 1).Rows[:0]}
	for i := range 5 { // x[i] from 0 to x[5]: 32 rays
		low, high := make([]exact.Q, 6), make([]exact.Q, 6)
		low[i], high[i], high[5] = exact.Int(-1), exact.Int(1), exact.Int(-1)
		cone.Rows = append(cone.Rows, hull.Row{A: low}, hull.Row{A: high})
	}
	points, rays, e := hull.Corners(cone)
	if e != api.OK || len(points) != 1 || len(rays) != 32 {
		t.Error("Corners of a cone:", e, len(points), len(rays))
	}
	big := hull.Poly{N: 11}
	for i := range 10 { // 1024 rays
		low, high := make([]exact.Q, 11), make([]exact.Q, 11)
		low[i], high[i], high[10] = exact.Int(-1), exact.Int(1), exact.Int(-1)
		big.Rows = append(big.Rows, hull.Row{A: low}, hull.Row{A: high})
	}
	_, _, e = hull.Corners(big)
	expectError(t, "Corners of a cone with 1024 rays", e, api.ErrLimit)
}

// P2.11: Hull.
func TestHull(t *testing.T) {
	for _, c := range []struct {
		n            int
		points, rays [][]exact.Q
		want         []string
	}{
		{1, lists("3"), lists("1"), []string{"-1 <= -3"}},
		{1, lists("3"), lists("1", "-1"), nil},
		{1, lists("3"), lists("0"), []string{"1 <= 3", "-1 <= -3"}},
		{1, nil, nil, []string{"0 <= -1"}},
		{2, nil, lists("1 0"), []string{"0 0 <= -1"}},
		{0, nil, nil, []string{"<= -1"}},
		{0, lists(""), nil, nil},
		{0, lists("", ""), lists(""), nil},
		{0, nil, lists(""), []string{"<= -1"}},
		{2, lists("0 0", "1 0", "1 1", "0 1", "1/2 1/2", "1/2 0", "0 0"), nil, []string{"-1 0 <= 0", "0 -1 <= 0", "0 1 <= 1", "1 0 <= 1"}},
		{2, lists("1 2"), nil, []string{"1 0 <= 1", "-1 0 <= -1", "0 1 <= 2", "0 -1 <= -2"}},
		{2, lists("1 2", "3 5"), nil, []string{"3 -2 <= -1", "-3 2 <= 1", "0 -1 <= -2", "0 1 <= 5"}},
		{2, lists("1 2", "3 5"), lists("2 3"), []string{"3 -2 <= -1", "-3 2 <= 1", "0 -1 <= -2"}},
		{2, lists("1 2", "3 5"), lists("2 3", "-4 -6"), []string{"3 -2 <= -1", "-3 2 <= 1"}},
		{2, lists("0 0"), lists("1 1", "1 -1"), []string{"-1 -1 <= 0", "-1 1 <= 0"}},
		{2, lists("0 0"), lists("1 1", "-1 -1", "1 -1"), []string{"-1 1 <= 0"}},
		{2, lists("0 0"), lists("1 1", "-1 0", "0 -1"), nil},
		{2, lists("0 0", "0 5"), lists("1 0"), []string{"-1 0 <= 0", "0 -1 <= 0", "0 1 <= 5"}},
		{3, lists("1 0 0", "0 1 0", "0 0 1"), nil, []string{"1 1 1 <= 1", "-1 -1 -1 <= -1", "0 -1 0 <= 0", "0 0 -1 <= 0", "0 1 1 <= 1"}},
	} {
		got, e := hull.Hull(c.n, c.points, c.rays)
		expectPoly(t, "Hull of "+listsText(c.points)+" and "+listsText(c.rays), got, e, c.n, c.want...)
	}
}

// P2.11, P2.16: a hull has just the points and rays it should have.
func TestHullIsRight(t *testing.T) {
	s := source(12)
	for range 1000 {
		n := 1 + s.below(4)
		points, rays := s.lists(1+s.below(6), n, 3), s.lists(s.below(3), n, 2)
		p, e := hull.Hull(n, points, rays)
		expectError(t, "Hull", e, api.OK)
		if !isCanonical(t, p) {
			t.Fatal("Hull is not canonical:", polyText(p))
		}
		for _, x := range points {
			if !hull.Has(p, x) {
				t.Fatal("Hull without a point:", listText(x), polyText(p))
			}
		}
		for _, d := range rays {
			if !hull.Has(directions(p), d) {
				t.Fatal("Hull without a ray:", listText(d), polyText(p))
			}
		}
		for _, r := range p.Rows { // each row is reached, and there is no more
			if !isReached(r, points) {
				t.Fatal("Hull with a row that is not reached:", rowText(r))
			}
		}
		corners, extremes, e := hull.Corners(p)
		if e == api.ErrOpen {
			continue
		}
		expectError(t, "Corners", e, api.OK)
		for _, x := range corners {
			if !isOneOf(x, points) {
				t.Fatal("a corner that is none of the points:", listText(x), listsText(points))
			}
		}
		var directions [][]exact.Q
		for _, d := range rays {
			directions = append(directions, primitive(d))
		}
		for _, d := range extremes {
			if !isOneOf(d, directions) {
				t.Fatal("an extreme ray that is none of the rays:", listText(d), listsText(rays))
			}
		}
	}
}

func isReached(r hull.Row, points [][]exact.Q) bool {
	for _, x := range points {
		if dot(r.A, x).Cmp(r.B) == 0 {
			return true
		}
	}
	return false
}

func isOneOf(x []exact.Q, l [][]exact.Q) bool {
	for _, y := range l {
		if compare(x, y) == 0 {
			return true
		}
	}
	return false
}

// P2.11: as many rows, points and rays as are allowed, and more.
func TestHullLimits(t *testing.T) {
	for n := 1; n <= api.MaxDim; n++ {
		p, e := hull.Hull(n, cross(n), nil)
		if n > 7 {
			expectError(t, "Hull of a cross", e, api.ErrLimit)
		} else if e != api.OK || len(p.Rows) != 1<<n {
			t.Error("Hull of a cross:", n, e, len(p.Rows))
		}
	}
	p, e := hull.Hull(2, curve(2, 200), nil)
	if e != api.OK || len(p.Rows) != 200 {
		t.Error("Hull with as many rows as are allowed:", e, len(p.Rows))
	}
	for _, c := range []struct{ n, count int }{{2, 201}, {2, 1000}, {3, 103}, {3, 1000}, {4, 50}, {6, 300}, {12, 100}} {
		p, e = hull.Hull(c.n, curve(c.n, c.count), nil)
		expectError(t, "Hull with too many rows", e, api.ErrLimit)
		if p.N != 0 || len(p.Rows) != 0 {
			t.Error("a result with an error")
		}
	}
	if p, e = hull.Hull(3, curve(3, 102), nil); e != api.OK || len(p.Rows) != 200 {
		t.Error("Hull with as many rows as are allowed:", e, len(p.Rows))
	}
	open := curve(2, 199) // with 198 sides between them, and two without end
	if p, e = hull.Hull(2, open, lists("-1 1", "1 1000")); e != api.OK || len(p.Rows) != 200 {
		t.Error("Hull with as many rows as are allowed, and rays:", e, len(p.Rows))
	}
	_, e = hull.Hull(2, curve(2, 200), lists("-1 1", "1 1000"))
	expectError(t, "Hull with one row too many, and rays", e, api.ErrLimit)
	flat := curve(2, 198) // with 198 sides, and an equation: its two rows count
	for i := range flat {
		flat[i] = append(flat[i], exact.Int(7))
	}
	if p, e = hull.Hull(3, flat, nil); e != api.OK || len(p.Rows) != 200 {
		t.Error("Hull with as many rows as are allowed, and an equation:", e, len(p.Rows))
	}
	flat = append(flat, ints(200, 40000, 7))
	_, e = hull.Hull(3, flat, nil)
	expectError(t, "Hull with too many rows, and an equation", e, api.ErrLimit)
	if p, e = hull.Hull(12, curve(12, 13), nil); e != api.OK || len(p.Rows) != 13 {
		t.Error("Hull of a simplex:", e, len(p.Rows))
	}
	same := make([][]exact.Q, api.MaxCorners)
	for i := range same {
		same[i] = ints(i%7, i%5)
	}
	p, e = hull.Hull(2, same[:900], same[:100])
	expectPoly(t, "Hull of as many as are allowed", p, e, 2, "-1 0 <= 0", "0 -1 <= 0")
}

func TestHullErrors(t *testing.T) {
	thousand := make([][]exact.Q, api.MaxCorners)
	for _, c := range []struct {
		n            int
		points, rays [][]exact.Q
		want         api.Errno
	}{
		{-1, nil, nil, api.ErrRange}, {13, nil, nil, api.ErrRange}, {-1, thousand, thousand, api.ErrRange}, {13, lists("1"), nil, api.ErrRange},
		{1, append(thousand, nil), nil, api.ErrLimit}, {1, nil, append(thousand, nil), api.ErrLimit}, {1, thousand, lists("1"), api.ErrLimit}, {1, lists("1"), thousand, api.ErrLimit}, {0, lists(""), thousand, api.ErrLimit},
		{1, thousand, nil, api.ErrArg}, {1, lists("1", "1 2"), nil, api.ErrArg}, {1, lists("1"), lists("1", ""), api.ErrArg}, {2, nil, lists("1"), api.ErrArg}, {0, lists("1"), nil, api.ErrArg},
	} {
		p, e := hull.Hull(c.n, c.points, c.rays)
		expectError(t, "Hull", e, c.want)
		if p.N != 0 || len(p.Rows) != 0 {
			t.Error("a result with an error")
		}
	}
	for i, p := range invalid() {
		if points, rays, e := hull.Corners(p); e != api.ErrArg || len(points) != 0 || len(rays) != 0 {
			t.Error("Corners of the invalid polyhedron", i, e)
		}
	}
}

// P2.13: Ring and Area.
func TestRing(t *testing.T) {
	for _, c := range []struct {
		p          hull.Poly
		ring, area string
		e          api.Errno
	}{
		{square(), "[0 0][1 0][1 1][0 1]", "1", api.OK},
		{poly(2, "1 1 <= 1", "-1 1 <= 1", "1 -1 <= 1", "-1 -1 <= 1"), "[-1 0][0 -1][1 0][0 1]", "2", api.OK},
		{poly(2, "-1 0 <= 0", "0 -1 <= 0", "2 3 <= 1"), "[0 0][1/2 0][0 1/3]", "1/12", api.OK},
		{poly(2, "-1 0 <= 0", "1 0 <= 0", "0 -1 <= 1", "0 1 <= 2"), "[0 -1][0 2]", "0", api.OK},
		{poly(2, "-1 0 <= 0", "1 0 <= 0", "0 -1 <= 1", "0 1 <= -1"), "[0 -1]", "0", api.OK},
		{poly(2, "1 -1 <= 0", "-1 1 <= 0", "0 -1 <= 1", "0 1 <= 2"), "[-1 -1][2 2]", "0", api.OK},
		{poly(2, "0 0 <= -1"), "", "0", api.ErrVoid},
		{poly(2, "1 0 <= 0", "-1 0 <= -1"), "", "0", api.ErrVoid},
		{poly(2), "", "0", api.ErrOpen},
		{poly(2, "1 0 <= 0", "-1 0 <= 0"), "", "0", api.ErrOpen},
		{poly(2, "1 0 <= 0", "0 1 <= 0"), "", "0", api.ErrOpen},
		{poly(2, "1 0 <= 0", "-1 0 <= 0", "0 1 <= 0"), "", "0", api.ErrOpen},
		{poly(1, "1 <= 1", "-1 <= 0"), "", "0", api.ErrArg},
		{poly(3, "0 0 0 <= -1"), "", "0", api.ErrArg},
		{poly(0), "", "0", api.ErrArg},
	} {
		ring, e := hull.Ring(c.p)
		expectError(t, "Ring of "+polyText(c.p), e, c.e)
		expect(t, "Ring of "+polyText(c.p), ringText(ring), c.ring)
		area, e := hull.Area(c.p)
		expectError(t, "Area of "+polyText(c.p), e, c.e)
		expect(t, "Area of "+polyText(c.p), area.Text(), c.area)
	}
	for i, p := range invalid() {
		ring, e := hull.Ring(p)
		area, f := hull.Area(p)
		if e != api.ErrArg || f != api.ErrArg || len(ring) != 0 || area.Sign() != 0 {
			t.Error("Ring, Area of the invalid polyhedron", i, e, f)
		}
	}
}

func TestRingIsRight(t *testing.T) {
	s := source(13)
	for range 1000 {
		points := s.lists(1+s.below(8), 2, 4)
		p, _ := hull.Hull(2, points, nil)
		ring, e := hull.Ring(p)
		expectError(t, "Ring", e, api.OK)
		corners, _, _ := hull.Corners(p)
		var listed [][]exact.Q
		double := exact.Q{}
		for i, a := range ring {
			b, c := ring[(i+1)%len(ring)], ring[(i+2)%len(ring)]
			if len(ring) > 2 && b.Sub(a).Cross(c.Sub(b)).Sign() <= 0 {
				t.Fatal("Ring does not turn left:", ringText(ring))
			}
			listed = append(listed, []exact.Q{a.X, a.Z})
			if i > 0 && i+1 < len(ring) { // triangles from the first corner
				double = double.Add(a.Sub(ring[0]).Cross(b.Sub(ring[0])))
			}
		}
		expect(t, "the first corner of a ring", listText(listed[0]), listText(corners[0]))
		expect(t, "the corners of a ring", listsText(sorted(listed)), listsText(corners))
		area, e := hull.Area(p)
		expectError(t, "Area", e, api.OK)
		if area.Add(area).Cmp(double) != 0 {
			t.Fatal("Area of", ringText(ring), area.Text())
		}
	}
}
