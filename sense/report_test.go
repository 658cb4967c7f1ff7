package sense_test

import (
	"math"
	"strconv"
	"testing"

	"amble/api"
	"amble/exact"
	"amble/hull"
	"amble/sense"
)

// expectFuse compares what is fused from reports with another polyhedron.
func expectFuse(t *testing.T, l []hull.Poly, f int, want hull.Poly) {
	t.Helper()
	got, e := sense.Fuse(l, f)
	expectOK(t, "Fuse of "+polysText(l)+" with "+strconv.Itoa(f), polyText(got), e, canonText(want))
}

func expectFuseError(t *testing.T, l []hull.Poly, f int, want api.Errno) {
	t.Helper()
	got, e := sense.Fuse(l, f)
	expectError(t, "Fuse of "+polysText(l)+" with "+strconv.Itoa(f), e, want)
	expect(t, "Fuse with an error", polyText(got), "0;")
}

// P10.2: the convex hull of what agrees.
func TestFuse(t *testing.T) {
	row := boxes("0 4", "3 6", "5 8")
	expectFuse(t, row, 1, box("3 6"))
	expectFuse(t, row, 2, box("0 8"))
	expectFuseError(t, row, 0, api.ErrVoid)
	expectFuse(t, boxes("0 4, 0 4"), 0, box("0 4, 0 4"))
	squares := boxes("0 2, 0 2", "1 3, 0 2", "4 5, 0 2")
	expectFuse(t, squares, 1, box("1 2, 0 2"))
	expectFuse(t, squares, 2, box("0 5, 0 2"))
	corners := boxes("0 1, 0 1", "2 3, 2 3")
	want := poly(2, "-1 0 0, 0 -1 0, 1 0 3, 0 1 3, 1 -1 1, -1 1 1")
	expectFuse(t, corners, 1, want)
	expectFuse(t, boxes("0 2, 0 2, 0 2", "1 3, 1 3, 1 3"), 0, box("1 2, 1 2, 1 2"))
	expectFuse(t, boxes("0 2, 0 2", "2 3, 2 3"), 0, point(nums("2 2")...))
	// a point and a square: the point is the tip
	expectFuse(t, []hull.Poly{point(nums("0 0")...), box("1 2, -1 1")}, 1, poly(2, "1 0 2, 0 1 1, 0 -1 1, -1 1 0, -1 -1 0"))
}

// Reports that all agree, and those that never do.
func TestFuseOfAllAndNothing(t *testing.T) {
	same := times(6, box("0 1, 0 1"))
	apart := boxes("0 1", "2 3", "4 5", "6 7", "8 9", "10 11")
	for f := range 6 {
		expectFuse(t, same, f, box("0 1, 0 1"))
		if f < 5 {
			expectFuseError(t, apart, f, api.ErrVoid)
		}
	}
	expectFuse(t, apart, 5, box("0 11"))
}

func TestFuseOfVoidReports(t *testing.T) {
	expectFuseError(t, []hull.Poly{nothing(2)}, 0, api.ErrVoid)
	l := []hull.Poly{nothing(1), box("0 1"), box("1/2 2")}
	expectFuseError(t, l, 0, api.ErrVoid)
	expectFuse(t, l, 1, box("1/2 1"))
	expectFuse(t, l, 2, box("0 2"))
	void := poly(1, "1 0, -1 -1") // its rows alone do not say that it is void
	expectFuse(t, []hull.Poly{void, box("0 1")}, 1, box("0 1"))
	expectFuseError(t, []hull.Poly{void, void}, 1, api.ErrVoid)
}

func TestFuseInTheDimension0(t *testing.T) {
	expectFuse(t, []hull.Poly{everything(0)}, 0, everything(0))
	expectFuse(t, []hull.Poly{everything(0), nothing(0)}, 1, everything(0))
	expectFuseError(t, []hull.Poly{everything(0), nothing(0)}, 0, api.ErrVoid)
}

// expectReportErrors looks at the errors that all calls with reports have.
func expectReportErrors(t *testing.T, call string, errorOf func(l []hull.Poly, f int) api.Errno) {
	t.Helper()
	check := func(what string, l []hull.Poly, f int, want api.Errno) {
		t.Helper()
		expectError(t, call+" of "+what, errorOf(l, f), want)
	}
	own := box("0 1, 0 1")
	bent := hull.Poly{N: 2, Rows: []hull.Row{{A: nums("1")}}}
	long := own
	for len(long.Rows) <= api.MaxReport {
		long.Rows = append(long.Rows, hull.Row{A: nums("1 1"), B: num("5")})
	}
	check("too many reports, one of them wrong", append(times(6, own), bent), -1, api.ErrLimit)
	check("no reports", nil, 0, api.ErrArg)
	check("no reports", nil, -1, api.ErrArg)
	check("a report that is not valid", []hull.Poly{own, bent}, -1, api.ErrArg)
	check("a report with too many rows", []hull.Poly{own, long}, 2, api.ErrArg)
	check("different dimensions", []hull.Poly{own, box("0 1")}, 2, api.ErrArg)
	check("a negative dimension", []hull.Poly{{N: -1}}, 1, api.ErrArg)
	check("the dimension 5", []hull.Poly{everything(5)}, 1, api.ErrArg)
	check("the dimension 13", []hull.Poly{everything(13)}, 1, api.ErrArg)
}

// expectRangeErrors looks at the f that are no number of wrong reports.
func expectRangeErrors(t *testing.T, call string, errorOf func(l []hull.Poly, f int) api.Errno) {
	t.Helper()
	for _, f := range []int{-1, 2, math.MinInt, math.MaxInt} {
		expectError(t, call+" with "+strconv.Itoa(f), errorOf(boxes("0 1", "3 *"), f), api.ErrRange)
	}
	expectError(t, call+" with 1 of 1", errorOf(boxes("0 1"), 1), api.ErrRange)
}

func TestFuseErrors(t *testing.T) {
	errorOf := func(l []hull.Poly, f int) api.Errno {
		got, e := sense.Fuse(l, f)
		expect(t, "Fuse with an error", polyText(got), "0;")
		return e
	}
	expectReportErrors(t, "Fuse", errorOf)
	expectRangeErrors(t, "Fuse", errorOf)
	for _, open := range boxes("0 *", "* 0", "* *") {
		expectFuseError(t, []hull.Poly{box("0 1"), open}, 0, api.ErrOpen)
		expectFuseError(t, []hull.Poly{open, box("0 1")}, 1, api.ErrOpen)
		expectFuseError(t, []hull.Poly{box("0 1"), nothing(1), open}, 0, api.ErrOpen)
	}
	expectFuseError(t, []hull.Poly{poly(2, "1 1 1, -1 -1 1"), box("0 1, 0 1")}, 0, api.ErrOpen)
	expectFuseError(t, []hull.Poly{poly(2, "1 0 1, -1 0 -2")}, 0, api.ErrVoid) // void, though its rows bound nothing
}

// The limits: MaxReports reports, MaxReport rows, the dimension 4.
func TestFuseAtItsLimits(t *testing.T) {
	var l []hull.Poly
	for i := range int64(api.MaxReports) {
		p := box("0 4, 0 4, 0 4, 0 4")
		for range api.MaxReport - len(p.Rows) {
			p.Rows = append(p.Rows, hull.Row{A: nums("1 1 1 1"), B: exact.Int(10 + i)})
		}
		l = append(l, p)
	}
	tip := hull.Row{A: nums("1 1 1 1"), B: num("10")}
	want := box("0 4, 0 4, 0 4, 0 4")
	expectFuse(t, l, 0, hull.Poly{N: 4, Rows: append(want.Rows, tip)})
	tip.B = num("13")
	expectFuse(t, l, 3, hull.Poly{N: 4, Rows: append(want.Rows, tip)})
	tip.B = num("15")
	expectFuse(t, l, 5, hull.Poly{N: 4, Rows: append(want.Rows, tip)})
}

// Many corners: six prisms with 256 corners each, one beside the other.
func TestFuseOfManyCorners(t *testing.T) {
	base := round(16, "1/2")
	points, _, _ := hull.Corners(base)
	var l []hull.Poly
	var ends [][]exact.Q
	for i := range int64(6) {
		l = append(l, moved(product(base, base), exact.Int(3*i), exact.Q{}, exact.Q{}, exact.Q{}))
	}
	for _, x := range points {
		ends = append(ends, x, []exact.Q{x[0].Add(num("15")), x[1]})
	}
	long, _ := hull.Hull(2, ends, nil)
	expectFuse(t, l, 5, product(long, base))
}

// choices hands over all sets of k of the numbers from 0 to n - 1.
func choices(n, k int, take func([]int)) {
	for set := range 1 << n {
		var l []int
		for i := range n {
			if set>>i&1 == 1 {
				l = append(l, i)
			}
		}
		if len(l) == k {
			take(l)
		}
	}
}

// crossings returns the points where n rows of polyhedra meet, if only there.
func crossings(l ...hull.Poly) [][]exact.Q {
	n := l[0].N
	var rows []hull.Row
	for _, p := range l {
		rows = append(rows, p.Rows...)
	}
	var found [][]exact.Q
	var meet func(from int, a exact.Mat, b []exact.Q)
	meet = func(from int, a exact.Mat, b []exact.Q) {
		if len(a) == n {
			if x, kernel, e := exact.Solve(a, b); e == api.OK && len(kernel) == 0 && (n == 0 || len(x) == n) {
				found = append(found, x)
			}
			return
		}
		for i := from; i < len(rows); i++ {
			meet(i+1, append(a[:len(a):len(a)], rows[i].A), append(b[:len(b):len(b)], rows[i].B))
		}
	}
	meet(0, nil, nil)
	return found
}

// agreed returns those of the points that belong to p, and to all reports but
// for f.
func agreed(points [][]exact.Q, p hull.Poly, l []hull.Poly, f int) [][]exact.Q {
	var found [][]exact.Q
	for _, x := range points {
		if hull.Has(p, x) && holders(l, x) >= len(l)-f {
			found = append(found, x)
		}
	}
	return found
}

// fewer returns at most 900 of the points, each once.
func fewer(t *testing.T, n int, points [][]exact.Q) [][]exact.Q {
	t.Helper()
	seen := map[string]bool{}
	var left [][]exact.Q
	for _, x := range points {
		if text := numsText(x); !seen[text] {
			seen[text] = true
			left = append(left, x)
		}
	}
	if len(left) > api.MaxCorners {
		t.Fatal("too many points to compare with")
	}
	return left
}

// P10.2, for reports that look random: what is fused is spanned by those points
// where rows of the reports meet that agree with enough of them.
func TestFuseOfAnyReports(t *testing.T) {
	s := source(1020)
	void, several := 0, 0
	for round := range 240 {
		n := 1 + round%3
		l := s.reports(1+s.below(4), n)
		points := crossings(l...)
		for f := range l {
			span := fewer(t, n, agreed(points, everything(n), l, f))
			got, e := sense.Fuse(l, f)
			if len(span) == 0 {
				void++
				expectError(t, "Fuse of "+polysText(l), e, api.ErrVoid)
				continue
			}
			if f > 0 {
				several++
			}
			expectOK(t, "Fuse of "+polysText(l)+" with "+strconv.Itoa(f), polyText(got), e, hullText(n, span))
		}
	}
	if void < 20 || several < 200 {
		t.Error("only", void, "times void,", several, "times more than all")
	}
}

// The same in four dimensions, for boxes.
func TestFuseOfBoxesInFourDimensions(t *testing.T) {
	s := source(1021)
	for range 12 {
		l := []hull.Poly{s.box(4, false), s.box(4, false), s.box(4, false)}
		points := grid(l...)
		for f := range l {
			var corners [][]exact.Q
			choices(len(l), len(l)-f, func(which []int) {
				var some []hull.Poly
				for _, i := range which {
					some = append(some, l[i])
				}
				own, _, _ := hull.Corners(meet(some...))
				corners = append(corners, own...)
			})
			got, e := sense.Fuse(l, f)
			if len(corners) == 0 {
				expectError(t, "Fuse of "+polysText(l), e, api.ErrVoid)
				continue
			}
			expectOK(t, "Fuse of "+polysText(l), polyText(got), e, hullText(4, fewer(t, 4, corners)))
			for _, x := range points[:min(len(points), 2000)] {
				if holders(l, x) >= len(l)-f && !hull.Has(got, x) {
					t.Error("Fuse lacks", numsText(x))
				}
			}
		}
	}
}

// meet returns the polyhedron with the rows of all.
func meet(l ...hull.Poly) hull.Poly {
	p, e := hull.Meet(l...)
	if e != api.OK {
		panic("no meeting")
	}
	return p
}

// sides returns the numbers at which boxes end in a coordinate, those between
// them, and some beyond.
func sides(i int, l ...hull.Poly) []exact.Q {
	found := nums("0")
	for _, p := range l {
		for _, r := range p.Rows {
			if r.A[i].Sign() != 0 {
				found = append(found, over(r.B, r.A[i]))
			}
		}
	}
	least, most := exact.Min(found...), exact.Max(found...)
	return between(sorted(append(found, least.Sub(num("1")), most.Add(num("1")))))
}

// grid returns points of all parts into which boxes cut the space: each of its
// points is in the same boxes as one of them.
func grid(l ...hull.Poly) [][]exact.Q {
	points := [][]exact.Q{nil}
	for i := range l[0].N {
		var longer [][]exact.Q
		for _, x := range points {
			for _, q := range sides(i, l...) {
				longer = append(longer, append(x[:i:i], q))
			}
		}
		points = longer
	}
	return points
}

// liars returns what the points of a grid say about wrong reports; false:
// nothing agrees.
func liars(l []hull.Poly, f int) (sure, maybe []int, ok bool) {
	right, wrong := make([]bool, len(l)), make([]bool, len(l))
	for _, x := range grid(l...) {
		if holders(l, x) < len(l)-f {
			continue
		}
		ok = true
		for i, p := range l {
			if hull.Has(p, x) {
				right[i] = true
			} else {
				wrong[i] = true
			}
		}
	}
	for i := range l {
		if !right[i] {
			sure = append(sure, i)
		}
		if wrong[i] {
			maybe = append(maybe, i)
		}
	}
	return sure, maybe, ok
}

func expectLiars(t *testing.T, l []hull.Poly, f int, sure, maybe string) {
	t.Helper()
	a, b, e := sense.Liars(l, f)
	expectOK(t, "Liars of "+polysText(l)+" with "+strconv.Itoa(f), placesText(a)+placesText(b), e, "["+sure+"]["+maybe+"]")
}

// P10.3: who is wrong, and who may be.
func TestLiars(t *testing.T) {
	l := boxes("0 4", "3 6", "5 8")
	expectLiars(t, l, 1, "", "0 2")
	expectLiars(t, l, 2, "", "0 1 2")
	expectLiars(t, boxes("0 1", "0 2", "5 6"), 1, "2", "2")
	expectLiars(t, boxes("0 1", "0 2", "5 6"), 2, "", "0 1 2")
	expectLiars(t, boxes("0 2", "1 3"), 0, "", "")
	expectLiars(t, boxes("0 2", "1 3"), 1, "", "0 1")
	expectLiars(t, boxes("0 2", "0 2"), 1, "", "")
	expectLiars(t, boxes("0 2", "0 3"), 1, "", "0")
	expectLiars(t, boxes("0 *", "* 1", "2 3"), 1, "", "1 2")
	expectLiars(t, []hull.Poly{everything(2), nothing(2)}, 1, "1", "1")
	expectLiars(t, []hull.Poly{everything(2), box("0 1, 0 1"), nothing(2), box("5 6, 5 6")}, 2, "2", "1 2 3")
	expectLiars(t, []hull.Poly{everything(0), nothing(0)}, 1, "1", "1")
	expectLiars(t, []hull.Poly{everything(4)}, 0, "", "")
	_, _, e := sense.Liars(boxes("0 1", "2 3", "4 5"), 1)
	expectError(t, "Liars that all disagree", e, api.ErrVoid)
	_, _, e = sense.Liars([]hull.Poly{nothing(0), nothing(0)}, 1)
	expectError(t, "Liars that are void", e, api.ErrVoid)
}

func TestLiarsErrors(t *testing.T) {
	errorOf := func(l []hull.Poly, f int) api.Errno {
		sure, maybe, e := sense.Liars(l, f)
		expect(t, "Liars with an error", placesText(sure)+placesText(maybe), "[][]")
		return e
	}
	expectReportErrors(t, "Liars", errorOf)
	expectRangeErrors(t, "Liars", errorOf)
	expectError(t, "Liars of unbounded reports", errorOf(boxes("0 *", "* 1"), 0), api.OK)
}

// P10.3, for boxes that look random, many of them not bounded.
func TestLiarsOfAnyBoxes(t *testing.T) {
	s := source(1030)
	explained, surely, void := 0, 0, 0
	for round := range 300 {
		n := 1 + round%3
		var l []hull.Poly
		for range 1 + s.below(min(6, 9-2*n)) {
			l = append(l, s.box(n, true))
		}
		for f := range l {
			sure, maybe, ok := liars(l, f)
			a, b, e := sense.Liars(l, f)
			if !ok {
				void++
				expectError(t, "Liars of "+polysText(l), e, api.ErrVoid)
				continue
			}
			explained++
			if len(sure) > 0 {
				surely++
			}
			expectOK(t, "Liars of "+polysText(l)+" with "+strconv.Itoa(f), placesText(a)+placesText(b), e, placesText(sure)+placesText(maybe))
		}
	}
	if explained < 300 || surely < 50 || void < 50 {
		t.Error("only", explained, "explained,", surely, "with liars,", void, "void")
	}
}

// expectConflict compares the reports of a conflict, and looks at the weights.
func expectConflict(t *testing.T, l []hull.Poly, want string) {
	t.Helper()
	which, weights, e := sense.Conflict(l)
	expectOK(t, "Conflict of "+polysText(l), placesText(which), e, "["+want+"]")
	expectWeights(t, l, which, weights)
}

// expectWeights looks at weights for all rows of some reports: none is below 0,
// and what they combine is not true anywhere.
func expectWeights(t *testing.T, l []hull.Poly, which []int, weights []exact.Q) {
	t.Helper()
	sum := make([]exact.Q, l[0].N)
	var b exact.Q
	i := 0
	for _, k := range which {
		for _, r := range l[k].Rows {
			if i == len(weights) || weights[i].Sign() < 0 {
				t.Fatal("wrong weights", numsText(weights))
			}
			for c := range sum {
				sum[c] = sum[c].Add(weights[i].Mul(r.A[c]))
			}
			b = b.Add(weights[i].Mul(r.B))
			i++
		}
	}
	if i != len(weights) || numsText(sum) != numsText(make([]exact.Q, len(sum))) || b.Sign() >= 0 {
		t.Error("weights that show nothing:", numsText(weights), "for", placesText(which), "of", polysText(l))
	}
}

// P10.4: a conflict from which nothing can be left out.
func TestConflict(t *testing.T) {
	expectConflict(t, []hull.Poly{poly(1, "1 1"), poly(1, "1 3"), poly(1, "-1 -2")}, "0 2")
	expectConflict(t, []hull.Poly{poly(1, "1 1"), poly(1, "1 0"), poly(1, "-1 -2")}, "1 2")
	expectConflict(t, []hull.Poly{poly(1, "-1 -2"), poly(1, "1 1"), poly(1, "1 0")}, "0 2")
	expectConflict(t, []hull.Poly{nothing(3)}, "0")
	expectConflict(t, []hull.Poly{nothing(0), everything(0), nothing(0)}, "2")
	expectConflict(t, []hull.Poly{box("0 1"), box("2 3"), nothing(1)}, "2")
	expectConflict(t, []hull.Poly{nothing(1), box("0 1"), box("2 3")}, "1 2")
	// three half planes that leave no point, though each two of them do
	expectConflict(t, []hull.Poly{poly(2, "1 0 0"), poly(2, "0 1 0"), everything(2), poly(2, "-1 -1 -1")}, "0 1 3")
	expectConflict(t, boxes("0 1", "1 2", "2 3"), "0 2")
}

func TestConflictErrors(t *testing.T) {
	errorOf := func(l []hull.Poly, _ int) api.Errno {
		which, weights, e := sense.Conflict(l)
		expect(t, "Conflict with an error", placesText(which)+numsText(weights), "[][]")
		return e
	}
	expectReportErrors(t, "Conflict", errorOf)
	for _, l := range [][]hull.Poly{boxes("0 1", "1 2"), boxes("0 *", "* 5"), {everything(0)}, {everything(4)}, boxes("3 3, * *")} {
		expectError(t, "Conflict of "+polysText(l), errorOf(l, 0), api.ErrNone)
	}
}

// haveCommon reports whether polyhedra have a common point.
func haveCommon(l []hull.Poly) bool {
	_, e := hull.Least(meet(append([]hull.Poly{everything(l[0].N)}, l...)...))
	return e != api.ErrVoid
}

// P10.4, for reports that look random: one by one is left out where the rest has
// no common point either.
func TestConflictOfAnyReports(t *testing.T) {
	s := source(1040)
	conflicts, none := 0, 0
	for round := range 400 {
		n := round % 5
		var l []hull.Poly
		for range 1 + s.below(6) {
			l = append(l, s.box(n, true))
			for range s.below(3) {
				l[len(l)-1].Rows = append(l[len(l)-1].Rows, hull.Row{A: s.numbers(n), B: s.number()})
			}
		}
		if haveCommon(l) {
			none++
			_, _, e := sense.Conflict(l)
			expectError(t, "Conflict of "+polysText(l), e, api.ErrNone)
			continue
		}
		conflicts++
		isIn := times(len(l), true)
		left := func() (some []hull.Poly, which []int) {
			for i, p := range l {
				if isIn[i] {
					some, which = append(some, p), append(which, i)
				}
			}
			return some, which
		}
		for i := range l {
			isIn[i] = false
			if some, _ := left(); len(some) == 0 || haveCommon(some) {
				isIn[i] = true
			}
		}
		_, want := left()
		which, weights, e := sense.Conflict(l)
		expectOK(t, "Conflict of "+polysText(l), placesText(which), e, placesText(want))
		expectWeights(t, l, which, weights)
	}
	if conflicts < 100 || none < 50 {
		t.Error("only", conflicts, "conflicts,", none, "times none")
	}
}
