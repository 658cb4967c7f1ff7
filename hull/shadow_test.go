package hull_test

import (
	"testing"

	"amble/api"
	"amble/exact"
	"amble/hull"
)

// P2.12: Project.
func TestProject(t *testing.T) {
	triangle := poly(2, "1 0 <= 1", "-1 0 <= 0", "0 1 <= 1", "0 -1 <= 0", "1 1 <= 1")
	wedge := poly(3, "1 0 -1 <= 0", "-1 0 -1 <= 0", "0 1 0 <= 2", "0 0 1 <= 4")
	for _, c := range []struct {
		p    hull.Poly
		keep []int
		want []string
	}{
		{triangle, []int{1}, []string{"-1 <= 0", "1 <= 1"}},
		{triangle, []int{1, 0}, []string{"-1 0 <= 0", "0 -1 <= 0", "1 1 <= 1"}},
		{triangle, []int{0, 1}, []string{"-1 0 <= 0", "0 -1 <= 0", "1 1 <= 1"}},
		{triangle, nil, nil},
		{wedge, []int{0}, []string{"-1 <= 4", "1 <= 4"}},
		{wedge, []int{1}, []string{"1 <= 2"}},
		{wedge, []int{2, 1}, []string{"-1 0 <= 0", "0 1 <= 2", "1 0 <= 4"}},
		{wedge, []int{1, 0, 2}, []string{"0 -1 -1 <= 0", "0 0 1 <= 4", "0 1 -1 <= 0", "1 0 0 <= 2"}},
		{poly(3), []int{2, 0}, nil},
		{poly(2, "1 -1 <= 0"), []int{0}, nil},
		{poly(2, "1 -1 <= 0", "-1 1 <= 0", "0 1 <= 3"), []int{0}, []string{"1 <= 3"}},
		{poly(3, "1 1 1 <= 1", "-1 -1 -1 <= -1", "0 0 1 <= 0", "0 0 -1 <= 0"), []int{1, 0}, []string{"1 1 <= 1", "-1 -1 <= -1"}},
		{poly(3, "1 2 0 <= 1", "-1 -2 0 <= -1"), []int{2, 1}, nil},
		{poly(2, "0 0 <= -1"), []int{1}, []string{"0 <= -1"}},
		{poly(2, "1 0 <= 0", "-1 0 <= -1"), []int{1}, []string{"0 <= -1"}},
		{poly(2, "1 0 <= 0", "-1 0 <= -1"), nil, []string{"<= -1"}},
		{poly(0), nil, nil},
		{poly(0, "<= -1"), nil, []string{"<= -1"}},
	} {
		got, e := hull.Project(c.p, c.keep)
		expectPoly(t, "Project of "+polyText(c.p), got, e, len(c.keep), c.want...)
	}
}

// some returns a choice of the indexes below n, in any order.
func (s *source) some(n int) []int {
	order := make([]int, n)
	for i := range order {
		j := s.below(i + 1)
		order[i], order[j] = order[j], i
	}
	return order[:s.below(n+1)]
}

// fixed returns the polyhedron of the points of p with these coordinates.
func fixed(p hull.Poly, keep []int, y []exact.Q) hull.Poly {
	q := hull.Poly{N: p.N, Rows: append([]hull.Row{}, p.Rows...)}
	for i, k := range keep {
		up, down := make([]exact.Q, p.N), make([]exact.Q, p.N)
		up[k], down[k] = exact.Int(1), exact.Int(-1)
		q.Rows = append(q.Rows, hull.Row{A: up, B: y[i]}, hull.Row{A: down, B: y[i].Neg()})
	}
	return q
}

// P2.18: a point is in Project exactly if some point has its coordinates.
func TestProjectByTrying(t *testing.T) {
	s := source(14)
	inside, outside := 0, 0
	for range 1500 {
		n := 1 + s.below(5)
		p, keep := s.poly(n, 7), s.some(n)
		q, e := hull.Project(p, keep)
		expectError(t, "Project", e, api.OK)
		if q.N != len(keep) || !isCanonical(t, q) {
			t.Fatal("Project is not canonical:", polyText(p), keep, polyText(q))
		}
		for range 5 {
			y := s.list(len(keep), 3)
			has := hull.Has(q, y)
			if has == isVoid(t, fixed(p, keep, y)) {
				t.Fatal("Project of", polyText(p), keep, "is", polyText(q), listText(y))
			}
			if has {
				inside++
			} else {
				outside++
			}
		}
	}
	if inside < 500 || outside < 500 {
		t.Error("too few points of a kind:", inside, outside)
	}
}

// P2.12: Project, Image and Sum of bounded polyhedra are the hulls of the
// corners that one gets.
func TestShadowsByCorners(t *testing.T) {
	s := source(15)
	for range 500 {
		n := 1 + s.below(4)
		p, _ := hull.Hull(n, s.lists(1+s.below(7), n, 3), nil)
		q, _ := hull.Hull(n, s.lists(1+s.below(4), n, 3), nil)
		a, _, _ := hull.Corners(p)
		b, _, _ := hull.Corners(q)
		m, v := exact.Mat(s.lists(s.below(5), n, 2)), []exact.Q(nil)
		if len(m) > 0 {
			v = s.list(len(m), 3)
		}
		var sums, images, shadows [][]exact.Q
		keep := s.some(n)
		for _, x := range a {
			for _, y := range b {
				sums = append(sums, plus(x, y))
			}
			y := make([]exact.Q, len(m))
			for i := range m {
				y[i] = dot(m[i], x).Add(v[i])
			}
			images = append(images, y)
			z := make([]exact.Q, len(keep))
			for i, k := range keep {
				z[i] = x[k]
			}
			shadows = append(shadows, z)
		}
		check := func(name string, got hull.Poly, e api.Errno, n int, points [][]exact.Q) {
			t.Helper()
			want, _ := hull.Hull(n, points, nil)
			expectError(t, name, e, api.OK)
			expect(t, name+" of "+polyText(p), polyText(got), polyText(want))
		}
		sum, e := hull.Sum(p, q)
		check("Sum", sum, e, n, sums)
		image, e := hull.Image(p, m, v)
		check("Image", image, e, len(m), images)
		shadow, e := hull.Project(p, keep)
		check("Project", shadow, e, len(keep), shadows)
	}
}

// P2.12: Image, and P2.17: its greatest values are those of the changed c.
func TestImage(t *testing.T) {
	for _, c := range []struct {
		p    hull.Poly
		m    exact.Mat
		v    string
		want []string
	}{
		{square(), lists("2 0", "0 3"), "1 -1", []string{"-1 0 <= -1", "0 -1 <= 1", "0 1 <= 2", "1 0 <= 3"}},
		{square(), lists("1 1"), "5", []string{"-1 <= -5", "1 <= 7"}},
		{square(), nil, "", nil},
		{square(), lists("0 0"), "1/2", []string{"1 <= 1/2", "-1 <= -1/2"}},
		{square(), lists("1 0", "0 1", "1 1"), "0 0 0", []string{"1 1 -1 <= 0", "-1 -1 1 <= 0", "0 -1 0 <= 0", "0 -1 1 <= 1", "0 1 -1 <= 0", "0 1 0 <= 1"}},
		{poly(2), lists("1 0", "2 0"), "0 1", []string{"2 -1 <= -1", "-2 1 <= 1"}},
		{poly(1, "0 <= -1"), lists("1", "1"), "0 0", []string{"0 0 <= -1"}},
		{poly(1, "0 <= -1"), nil, "", []string{"<= -1"}},
		{poly(0), lists("", ""), "1 2", []string{"1 0 <= 1", "-1 0 <= -1", "0 1 <= 2", "0 -1 <= -2"}},
		{poly(0), nil, "", nil},
		{poly(0, "<= -1"), lists("", ""), "1 2", []string{"0 0 <= -1"}},
		{poly(1, "-1 <= 0"), lists("1/2", "1/3"), "0 0", []string{"2 -3 <= 0", "-2 3 <= 0", "0 -1 <= 0"}},
	} {
		got, e := hull.Image(c.p, c.m, nums(c.v))
		expectPoly(t, "Image of "+polyText(c.p), got, e, len(c.m), c.want...)
	}
	s := source(16)
	for range 500 {
		n := s.below(4)
		p := s.poly(n, 5)
		m := exact.Mat(s.lists(1+s.below(4), n, 2))
		v, c := s.list(len(m), 2), s.list(len(m), 2)
		image, e := hull.Image(p, m, v)
		expectError(t, "Image", e, api.OK)
		changed := make([]exact.Q, n)
		for i := range m {
			changed = plus(changed, scaled(m[i], c[i]))
		}
		low, high, below, above, e := hull.Bounds(c, image)
		low2, high2, below2, above2, f := hull.Bounds(changed, p)
		expectError(t, "Bounds", e, f)
		shift := dot(c, v)
		if e == api.OK && (below != below2 || above != above2 || below && low.Cmp(low2.Add(shift)) != 0 || above && high.Cmp(high2.Add(shift)) != 0) {
			t.Fatal("Image of", polyText(p), listsText(m), listText(v), "is", polyText(image))
		}
		if !isCanonical(t, image) || image.N != len(m) {
			t.Fatal("Image is not canonical:", polyText(image))
		}
	}
}

// P2.12: Preimage.
func TestPreimage(t *testing.T) {
	for _, c := range []struct {
		p    hull.Poly
		m    exact.Mat
		v    string
		n    int
		want []string
	}{
		{square(), lists("2 0", "0 3"), "1 -1", 2, []string{"2 0 <= 0", "-2 0 <= 1", "0 3 <= 2", "0 -3 <= -1"}},
		{square(), lists("1", "2"), "0 0", 1, []string{"1 <= 1", "-1 <= 0", "2 <= 1", "-2 <= 0"}},
		{square(), lists("", ""), "1/2 2", 0, []string{"<= 1/2", "<= 1/2", "<= -1", "<= 2"}},
		{square(), lists("1 1 0", "0 0 0"), "0 1", 3, []string{"1 1 0 <= 1", "-1 -1 0 <= 0", "0 0 0 <= 0", "0 0 0 <= 1"}},
		{poly(0, "<= 3"), nil, "", 0, []string{"<= 3"}},
		{poly(0, "<= -1"), nil, "", 0, []string{"<= -1"}},
		{poly(2), lists("1 2 3", "4 5 6"), "7 8", 3, nil},
		{poly(1, "2 <= 4", "2 <= 4"), lists("1"), "1", 1, []string{"2 <= 2", "2 <= 2"}},
	} {
		got, e := hull.Preimage(c.p, c.m, nums(c.v))
		expectPoly(t, "Preimage of "+polyText(c.p), got, e, c.n, c.want...)
	}
	s := source(17)
	for range 300 {
		n, columns := 1+s.below(3), s.below(4)
		p, m, v := s.poly(n, 5), exact.Mat(s.lists(n, columns, 2)), s.list(n, 2)
		q, e := hull.Preimage(p, m, v)
		expectError(t, "Preimage", e, api.OK)
		for range 5 {
			x := s.list(columns, 2)
			y, _ := exact.Apply(m, x)
			if hull.Has(q, x) != hull.Has(p, plus(y, v)) || len(q.Rows) != len(p.Rows) {
				t.Fatal("Preimage of", polyText(p), listsText(m), listText(v), "is", polyText(q))
			}
		}
	}
}

// P2.12: Sum, and P2.17: its greatest values are the sums of them.
func TestSum(t *testing.T) {
	for _, c := range []struct {
		p, q hull.Poly
		want []string
	}{
		{square(), square(), []string{"-1 0 <= 0", "0 -1 <= 0", "0 1 <= 2", "1 0 <= 2"}},
		{square(), poly(2), nil},
		{square(), poly(2, "1 1 <= 0"), []string{"1 1 <= 2"}},
		{square(), poly(2, "0 0 <= -1"), []string{"0 0 <= -1"}},
		{poly(2, "1 0 <= 0", "-1 0 <= -1"), square(), []string{"0 0 <= -1"}},
		{poly(2, "1 0 <= 1", "-1 0 <= -1"), poly(2, "1 0 <= 2", "-1 0 <= -2"), []string{"1 0 <= 3", "-1 0 <= -3"}},
		{poly(2, "1 0 <= 1", "-1 0 <= -1"), poly(2, "0 1 <= 2", "0 -1 <= -2"), nil},
		{poly(2, "1 0 <= 0", "-1 0 <= 0", "0 -1 <= 0"), poly(2, "0 1 <= 0", "0 -1 <= 0", "-1 0 <= 0"), []string{"-1 0 <= 0", "0 -1 <= 0"}},
		{poly(0), poly(0), nil},
		{poly(0), poly(0, "<= -1"), []string{"<= -1"}},
		{poly(1, "1 <= 3/2"), poly(1, "2 <= 1", "-1 <= 7"), []string{"1 <= 2"}},
		{square(), poly(2, "1 1 <= 1", "-1 1 <= 1", "1 -1 <= 1", "-1 -1 <= 1"), []string{"-1 -1 <= 1", "-1 0 <= 1", "-1 1 <= 2", "0 -1 <= 1", "0 1 <= 2", "1 -1 <= 2", "1 0 <= 2", "1 1 <= 3"}},
	} {
		for _, pair := range [][2]hull.Poly{{c.p, c.q}, {c.q, c.p}} {
			got, e := hull.Sum(pair[0], pair[1])
			expectPoly(t, "Sum of "+polyText(pair[0])+" and "+polyText(pair[1]), got, e, c.p.N, c.want...)
		}
	}
	s := source(18)
	for range 500 {
		n := s.below(4)
		p, q, c := s.poly(n, 4), s.poly(n, 4), s.list(n, 2)
		sum, e := hull.Sum(p, q)
		expectError(t, "Sum", e, api.OK)
		if !isCanonical(t, sum) || sum.N != n {
			t.Fatal("Sum is not canonical:", polyText(sum))
		}
		if isVoid(t, p) || isVoid(t, q) {
			if !isVoid(t, sum) {
				t.Fatal("Sum with a void polyhedron:", polyText(sum))
			}
			continue
		}
		low, high, below, above, e := hull.Bounds(c, sum)
		expectError(t, "Bounds", e, api.OK)
		lowP, highP, belowP, aboveP, _ := hull.Bounds(c, p)
		lowQ, highQ, belowQ, aboveQ, _ := hull.Bounds(c, q)
		if below != (belowP && belowQ) || above != (aboveP && aboveQ) || below && low.Cmp(lowP.Add(lowQ)) != 0 || above && high.Cmp(highP.Add(highQ)) != 0 {
			t.Fatal("Sum of", polyText(p), "and", polyText(q), "is", polyText(sum))
		}
	}
}

// P2.12: many rows and dimensions, and too many rows.
func TestShadowLimits(t *testing.T) {
	box12 := box(12, 0, 1)
	for _, keep := range [][]int{{11}, {3, 0}, {1, 2, 3, 4, 5, 6}, {11, 10, 9, 8, 7, 6, 5, 4, 3, 2, 1}, {1, 0, 3, 2, 5, 4, 7, 6, 9, 8, 11, 10}} {
		p, e := hull.Project(box12, keep)
		want, _ := hull.Canon(box(len(keep), 0, 1))
		expectError(t, "Project of a box", e, api.OK)
		expect(t, "Project of a box", polyText(p), polyText(want))
	}
	want, _ := hull.Canon(box(12, -1, 3))
	sum, e := hull.Sum(box12, box(12, -1, 2))
	expectError(t, "Sum of boxes", e, api.OK)
	expect(t, "Sum of boxes", polyText(sum), polyText(want))
	for n, count := range map[int]int{1: 2, 2: 24, 3: 132} { // as many sides as a zonotope of 12 vectors has
		m, _ := exact.Trans(curve(n, 13)[1:])
		p, e := hull.Image(box12, m, make([]exact.Q, n))
		if e != api.OK || len(p.Rows) != count {
			t.Error("Image of a box:", n, e, len(p.Rows))
		}
	}
	for _, n := range []int{4, 5} {
		m, _ := exact.Trans(curve(n, 13)[1:])
		p, e := hull.Image(box12, m, make([]exact.Q, n))
		expectError(t, "Image with too many rows", e, api.ErrLimit)
		if p.N != 0 || len(p.Rows) != 0 {
			t.Error("a result with an error")
		}
	}
	evenPart, oddPart := hull.Poly{N: 2}, hull.Poly{N: 2}
	for i, r := range tangents(2, 0, -100, 201) { // each side of the sum is one of either part, or of both
		if i%2 == 0 {
			evenPart.Rows = append(evenPart.Rows, r)
		}
		if i%2 == 1 || i == 0 || i == 200 {
			oddPart.Rows = append(oddPart.Rows, r)
		}
	}
	_, e = hull.Sum(evenPart, oddPart)
	expectError(t, "Sum with 201 rows", e, api.ErrLimit)
	oddPart.Rows = append(oddPart.Rows[:7:7], oddPart.Rows[8:]...)
	p, e := hull.Sum(evenPart, oddPart)
	if e != api.OK || len(p.Rows) != api.MaxRows {
		t.Error("Sum with as many rows as are allowed:", e, len(p.Rows))
	}
	for count, want := range map[int]api.Errno{20: api.OK, 100: api.ErrLimit} { // (x, z) with x² + z² not above some number, with the parabola's tangents for the squares
		disc := hull.Poly{N: 3}
		for _, r := range tangents(2, 0, -count/2, count) {
			disc.Rows = append(disc.Rows, hull.Row{A: []exact.Q{r.A[0], {}, r.A[1]}, B: r.B})
			most := exact.Int(int64(count * count / 5))
			disc.Rows = append(disc.Rows, hull.Row{A: []exact.Q{{}, r.A[0], r.A[1].Neg()}, B: r.B.Add(most)})
		}
		p, e := hull.Project(disc, []int{1, 0})
		expectError(t, "Project of rows for squares", e, want)
		if e == api.OK && !isCanonical(t, p) {
			t.Error("Project is not canonical")
		}
	}
}

func TestShadowErrors(t *testing.T) {
	check := func(name string, p hull.Poly, e, want api.Errno) {
		t.Helper()
		expectError(t, name, e, want)
		if p.N != 0 || len(p.Rows) != 0 {
			t.Error("a result with an error:", name)
		}
	}
	for _, keep := range [][]int{{2}, {-1}, {0, 0}, {1, 0, 1}, {0, 1, 2}, {1 << 62}, {-1 << 62}} {
		p, e := hull.Project(square(), keep)
		check("Project", p, e, api.ErrRange)
	}
	p, e := hull.Project(poly(0), []int{0})
	check("Project of a point", p, e, api.ErrRange)
	thirteen, ten := make(exact.Mat, 13), make(exact.Mat, 13)
	for i := range thirteen {
		thirteen[i], ten[i] = make([]exact.Q, 2), make([]exact.Q, 10)
	}
	wide := exact.Mat{make([]exact.Q, 13), make([]exact.Q, 13)}
	for name, c := range map[string]struct {
		m    exact.Mat
		v    int
		want api.Errno
	}{
		"a short row":           {lists("1 2", "1"), 2, api.ErrArg},
		"a long row":            {lists("1 2 3"), 1, api.ErrArg},
		"many short rows":       {ten, 13, api.ErrArg},
		"many rows":             {thirteen, 13, api.ErrRange},
		"many rows, and v":      {thirteen, 2, api.ErrRange},
		"as many rows, and v":   {thirteen[:12], 13, api.ErrArg},
		"nothing, and v":        {nil, 1, api.ErrArg},
		"a short v":             {lists("1 2", "3 4"), 1, api.ErrArg},
		"a long v":              {lists("1 2", "3 4"), 3, api.ErrArg},
		"as many as is allowed": {thirteen[:12], 12, api.OK},
	} {
		p, e := hull.Image(square(), c.m, make([]exact.Q, c.v))
		if c.want == api.OK {
			expectError(t, "Image with "+name, e, api.OK)
			continue
		}
		check("Image with "+name, p, e, c.want)
	}
	for name, c := range map[string]struct {
		m    exact.Mat
		v    int
		want api.Errno
	}{
		"no rows":               {nil, 2, api.ErrArg},
		"one row":               {lists("1"), 2, api.ErrArg},
		"three rows":            {lists("1", "1", "1"), 2, api.ErrArg},
		"different rows":        {lists("1", "1 2"), 2, api.ErrArg},
		"wide different rows":   {exact.Mat{wide[0], wide[0][:12]}, 2, api.ErrArg},
		"wide rows":             {wide, 2, api.ErrRange},
		"wide rows, and v":      {wide, 1, api.ErrRange},
		"a short v":             {lists("1 2", "3 4"), 1, api.ErrArg},
		"a long v":              {lists("1 2", "3 4"), 3, api.ErrArg},
		"as many as is allowed": {exact.Mat{wide[0][:12], wide[1][:12]}, 2, api.OK},
	} {
		p, e := hull.Preimage(square(), c.m, make([]exact.Q, c.v))
		if c.want == api.OK {
			expectError(t, "Preimage with "+name, e, api.OK)
			continue
		}
		check("Preimage with "+name, p, e, c.want)
	}
	p, e = hull.Preimage(poly(0), lists("1"), nil)
	check("Preimage of a point", p, e, api.ErrArg)
	p, e = hull.Sum(poly(1), poly(2))
	check("Sum", p, e, api.ErrArg)
	for _, q := range invalid() {
		p, e := hull.Project(q, []int{99})
		check("Project of an invalid polyhedron", p, e, api.ErrArg)
		p, e = hull.Image(q, thirteen, nil)
		check("Image of an invalid polyhedron", p, e, api.ErrArg)
		p, e = hull.Image(q, nil, nil)
		check("Image of an invalid polyhedron", p, e, api.ErrArg)
		p, e = hull.Preimage(q, wide, nil)
		check("Preimage of an invalid polyhedron", p, e, api.ErrArg)
		p, e = hull.Preimage(q, nil, nil)
		check("Preimage of an invalid polyhedron", p, e, api.ErrArg)
		p, e = hull.Sum(q, square())
		check("Sum of an invalid polyhedron", p, e, api.ErrArg)
		p, e = hull.Sum(q, q)
		check("Sum of an invalid polyhedron", p, e, api.ErrArg)
	}
}
