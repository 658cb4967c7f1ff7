package sense_test

import (
	"math"
	"strconv"
	"testing"

	"amble/api"
	"amble/exact"
	"amble/hull"
	"amble/sense"
)

func expectPredict(t *testing.T, p hull.Poly, m sense.Model, want hull.Poly) {
	t.Helper()
	got, e := sense.Predict(p, m)
	expectOK(t, "Predict of "+polyText(p), polyText(got), e, canonText(want))
}

// P10.5: where states may be after a step.
func TestPredict(t *testing.T) {
	expectPredict(t, box("0 1"), model("2", "3", box("-1 1")), box("2 6"))
	expectPredict(t, box("0 1"), model("-1", "0", point(nums("1/2")...)), box("-1/2 1/2"))
	expectPredict(t, box("0 1"), model("0", "7", box("0 1")), box("7 8"))
	turn := model("0 -1, 1 0", "10 20", point(nums("0 0")...))
	expectPredict(t, box("1 2, 5 7"), turn, box("3 5, 21 22"))
	sheared := poly(2, "1 -1 0, -1 1 1, 0 1 1, 0 -1 0") // from 0 to 1 above x, between z = 0 and z = 1
	expectPredict(t, box("-1 0, 0 1"), model("1 1, 0 1", "0 0", point(nums("0 0")...)), sheared)
	flat := model("1 1, 1 1", "0 0", point(nums("1 0")...)) // a singular matrix
	expectPredict(t, box("0 1, 0 1"), flat, poly(2, "1 -1 1, -1 1 -1, 1 0 3, -1 0 -1"))
	expectPredict(t, box("0 1, 0 1"), still(poly(2, "-1 0 0, 0 -1 0, 1 1 1")), poly(2, "-1 0 0, 0 -1 0, 1 0 2, 0 1 2, 1 1 3"))
	expectPredict(t, everything(0), still(everything(0)), everything(0))
	expectPredict(t, nothing(0), still(everything(0)), nothing(0))
	expectPredict(t, everything(0), still(nothing(0)), nothing(0))
}

// Void and unbounded enclosures, and such noise.
func TestPredictOfOpenAndVoid(t *testing.T) {
	expectPredict(t, nothing(2), still(box("0 1, 0 1")), nothing(2))
	expectPredict(t, box("0 1, 0 1"), still(nothing(2)), nothing(2))
	expectPredict(t, poly(1, "1 0, -1 -1"), still(everything(1)), nothing(1))
	expectPredict(t, box("0 *, * 1"), still(box("-1 1, -1 1")), box("-1 *, * 2"))
	expectPredict(t, box("0 1, 0 1"), still(box("0 *, 0 0")), box("0 *, 0 1"))
	expectPredict(t, box("0 1, 0 1"), still(everything(2)), everything(2))
	expectPredict(t, everything(3), model("1 0 0, 0 0 0, 0 0 2", "0 5 0", point(nums("0 0 0")...)), box("* *, 5 5, * *"))
	expectPredict(t, box("0 *, 0 *"), model("1 -1, 0 0", "0 0", point(nums("0 0")...)), box("* *, 0 0"))
}

// isArgs looks at the arguments that no model with an enclosure has.
func isArgs(t *testing.T, call string, errorOf func(p hull.Poly, m sense.Model) api.Errno) {
	t.Helper()
	own, m := box("0 1, 0 1"), still(box("0 1, 0 1"))
	check := func(what string, p hull.Poly, m sense.Model) {
		t.Helper()
		expectError(t, call+" of "+what, errorOf(p, m), api.ErrArg)
	}
	bent := hull.Poly{N: 2, Rows: []hull.Row{{A: nums("1")}}}
	long := hull.Poly{N: 2, Rows: times(api.MaxRows+1, own.Rows[0])}
	check("an enclosure that is not valid", bent, m)
	check("an enclosure with too many rows", long, m)
	check("the dimension -1", hull.Poly{N: -1}, m)
	check("an enclosure of another dimension", box("0 1"), m)
	check("the dimension 5", everything(5), still(everything(5)))
	check("the dimension 13", everything(13), still(everything(13)))
	other := m
	other.Noise = bent
	check("noise that is not valid", own, other)
	other.Noise = box("0 1")
	check("noise of another dimension", own, other)
	for _, a := range []string{"", "1 0", "1 0, 0 1, 0 0", "1, 0", "1 0 0, 0 1 0", "1 0, 0"} {
		other = m
		other.A = matrix(a)
		check("the matrix "+a, own, other)
	}
	for _, b := range []string{"", "1", "1 2 3"} {
		other = m
		other.B = nums(b)
		check("the numbers "+b, own, other)
	}
}

func TestPredictErrors(t *testing.T) {
	isArgs(t, "Predict", func(p hull.Poly, m sense.Model) api.Errno {
		got, e := sense.Predict(p, m)
		expect(t, "Predict with an error", polyText(got), "0;")
		return e
	})
}

// A canonical description of MaxRows rows is too long: here sides of two
// polygons come together.
func TestPredictAtItsLimit(t *testing.T) {
	for sides, want := range map[int]api.Errno{98: api.OK, 100: api.ErrLimit, 102: api.ErrLimit} {
		got, e := sense.Predict(round(100, "1/4"), still(round(sides, "3/4")))
		expectError(t, "Predict with "+strconv.Itoa(sides)+" sides more", e, want)
		if e == api.OK && len(got.Rows) != 100+sides {
			t.Error("Predict gives", len(got.Rows), "sides")
		}
	}
	odd := round(100, "3/4")
	odd.Rows = odd.Rows[1:]
	got, e := sense.Predict(round(100, "1/4"), still(odd))
	expectOK(t, "Predict of 100 sides and 99", strconv.Itoa(len(got.Rows)), e, "199")
	for sides, want := range map[int]api.Errno{198: api.OK, 200: api.ErrLimit} {
		_, e := sense.Predict(round(sides, "1/2"), still(point(nums("1 1")...)))
		expectError(t, "Predict of "+strconv.Itoa(sides)+" sides", e, want)
		_, e = sense.Predict(point(nums("1 1")...), still(round(sides, "1/2")))
		expectError(t, "Predict with "+strconv.Itoa(sides)+" sides of noise", e, want)
		// what is moved comes up on the way, though nothing is left of it
		_, e = sense.Predict(round(sides, "1/2"), still(everything(2)))
		expectError(t, "Predict of "+strconv.Itoa(sides)+" sides with open noise", e, want)
	}
}

// steps returns all A x + B + w, for some points x and w.
func steps(m sense.Model, points, noise [][]exact.Q) [][]exact.Q {
	var found [][]exact.Q
	for _, x := range points {
		for _, w := range noise {
			found = append(found, stepped(m, x, w))
		}
	}
	return found
}

// stepped returns A x + B + w.
func stepped(m sense.Model, x, w []exact.Q) []exact.Q {
	next := make([]exact.Q, len(x))
	for i, row := range m.A {
		next[i] = exact.Sum(dot(row, x), m.B[i], w[i])
	}
	return next
}

// P10.5, for models that look random: what is predicted is spanned by all sums of
// corners.
func TestPredictOfAnyModels(t *testing.T) {
	s := source(1050)
	void, right := 0, 0
	for round := range 200 {
		n := 1 + round%4
		m, p := s.model(n), s.report(n)
		points, _, _ := hull.Corners(p)
		noise, _, _ := hull.Corners(m.Noise)
		got, e := sense.Predict(p, m)
		if len(points) == 0 {
			void++
			expectOK(t, "Predict of "+polyText(p), polyText(got), e, polyText(nothing(n)))
			continue
		}
		right++
		want, wrong := hull.Hull(n, fewer(t, n, steps(m, points, noise)), nil)
		expectOK(t, "Predict of "+polyText(p)+" with "+modelText(m), polyText(got), e, polyText(want))
		expectError(t, "Hull of all sums", wrong, api.OK)
	}
	if void < 5 || right < 100 {
		t.Error("only", right, "predictions,", void, "of nothing")
	}
}

func expectUpdate(t *testing.T, p hull.Poly, l []hull.Poly, f int, want hull.Poly) {
	t.Helper()
	got, e := sense.Update(p, l, f)
	expectOK(t, "Update of "+polyText(p)+" with "+polysText(l), polyText(got), e, canonText(want))
}

func expectUpdateError(t *testing.T, p hull.Poly, l []hull.Poly, f int, want api.Errno) {
	t.Helper()
	got, e := sense.Update(p, l, f)
	expectError(t, "Update of "+polyText(p)+" with "+polysText(l), e, want)
	expect(t, "Update with an error", polyText(got), "0;")
}

// P10.5: the points of an enclosure that agree.
func TestUpdate(t *testing.T) {
	l := boxes("0 4", "3 6", "5 8")
	expectUpdate(t, box("0 10"), l, 1, box("3 6"))
	expectUpdate(t, box("0 5"), l, 1, box("3 5"))
	expectUpdate(t, box("0 9/2"), l, 1, box("3 4"))
	expectUpdate(t, box("0 10"), l, 2, box("0 8"))
	expectUpdate(t, box("1 1"), l, 2, box("1 1"))
	expectUpdateError(t, box("0 10"), l, 0, api.ErrVoid)
	expectUpdateError(t, box("1 2"), l, 1, api.ErrVoid)
	expectUpdate(t, box("0 1, 0 1"), []hull.Poly{poly(2, "1 1 1")}, 0, poly(2, "-1 0 0, 0 -1 0, 1 1 1"))
	expectUpdate(t, box("0 1, 0 1"), boxes("1/2 *, * *", "* 1/4, * *"), 1, box("0 1, 0 1"))
	expectUpdate(t, everything(0), []hull.Poly{everything(0), nothing(0)}, 1, everything(0))
	expectUpdateError(t, everything(0), []hull.Poly{nothing(0)}, 0, api.ErrVoid)
	expectUpdateError(t, nothing(0), []hull.Poly{everything(0)}, 0, api.ErrVoid)
	expectUpdateError(t, nothing(2), []hull.Poly{box("0 1, 0 1")}, 0, api.ErrVoid)
	expectUpdateError(t, box("0 1, 0 1"), []hull.Poly{nothing(2)}, 0, api.ErrVoid)
}

func TestUpdateErrors(t *testing.T) {
	own := func(l []hull.Poly) hull.Poly {
		if len(l) == 0 || hull.Check(l[0]) != api.OK {
			return box("0 1, 0 1")
		}
		return everything(l[0].N)
	}
	errorOf := func(l []hull.Poly, f int) api.Errno {
		got, e := sense.Update(own(l), l, f)
		expect(t, "Update with an error", polyText(got), "0;")
		return e
	}
	expectReportErrors(t, "Update", errorOf)
	expectRangeErrors(t, "Update", errorOf)
	l := boxes("0 1", "0 2")
	bent := hull.Poly{N: 1, Rows: []hull.Row{{A: nums("1 2")}}}
	long := hull.Poly{N: 1, Rows: times(api.MaxRows+1, box("0 1").Rows[0])}
	for _, p := range []hull.Poly{bent, long, box("0 1, 0 1"), everything(0), {N: -1}, {N: math.MaxInt}} {
		expectUpdateError(t, p, l, -1, api.ErrArg)
		expectUpdateError(t, p, times(7, l[0]), -1, api.ErrLimit)
	}
	expectUpdateError(t, everything(5), []hull.Poly{everything(5)}, 0, api.ErrArg)
	expectUpdateError(t, box("0 *"), l, 2, api.ErrRange)
	for _, p := range boxes("0 *", "* 1", "* *") {
		expectUpdateError(t, p, l, 0, api.ErrOpen)
		expectUpdateError(t, p, []hull.Poly{nothing(1)}, 0, api.ErrOpen)
	}
	expectUpdate(t, box("0 3"), boxes("1 *", "* 2"), 0, box("1 2")) // reports need not be bounded
}

// An enclosure may have more rows than a report, and all rows together may be
// more than those of a polyhedron.
func TestUpdateOfLongEnclosures(t *testing.T) {
	long := box("0 4, 0 4")
	for i := range int64(api.MaxRows - 4) {
		long.Rows = append(long.Rows, hull.Row{A: nums("1 1"), B: exact.Int(7 + i)})
	}
	want := poly(2, "-1 0 0, 0 -1 0, 1 0 3, 0 1 4, 1 1 13/2")
	for f, most := range []string{"13/2", "7"} {
		l := []hull.Poly{poly(2, "1 0 3"), poly(2, "1 0 3, 1 1 13/2")}
		want.Rows[4].B = num(most)
		expectUpdate(t, long, l, f, want)
	}
	// 198 sides, with reports of 32 rows each that contain all of them
	wide := round(api.MaxReport, "1/3")
	for i := range wide.Rows {
		wide.Rows[i].B = num("2")
	}
	for _, f := range []int{0, 3, 5} {
		expectUpdate(t, round(198, "1/2"), times(6, wide), f, round(198, "1/2"))
	}
}

// An enclosure may have more corners than hull.Corners returns.
func TestUpdateOfManyCorners(t *testing.T) {
	p := product(round(32, "1/2"), round(32, "1/2"))
	_, _, e := hull.Corners(p)
	expectError(t, "Corners", e, api.ErrLimit)
	expectUpdate(t, p, boxes("-2 2, -2 2, -2 2, -2 2", "0 2, -2 2, -2 2, -2 2"), 1, p)
	expectUpdate(t, p, boxes("-2 2, -2 2, -2 2, -2 2", "0 2, -2 2, -2 2, -2 2"), 0, product(meet(round(32, "1/2"), box("0 *, * *")), round(32, "1/2")))
}

// cut returns the corners of a polygon, counterclockwise, that are left where a
// row is true.
func cut(ring []exact.Point, r hull.Row) []exact.Point {
	var left []exact.Point
	value := func(p exact.Point) exact.Q { return r.B.Sub(dot(r.A, []exact.Q{p.X, p.Z})) }
	for i, p := range ring {
		next := ring[(i+1)%len(ring)]
		here, there := value(p), value(next)
		if here.Sign() >= 0 {
			left = append(left, p)
		}
		if here.Sign()*there.Sign() < 0 {
			left = append(left, p.Add(next.Sub(p).Scale(over(here, here.Sub(there)))))
		}
	}
	return left
}

// shared returns what a polygon has in common with others, by cutting it.
func shared(p hull.Poly, l ...hull.Poly) (hull.Poly, api.Errno) {
	ring, _ := hull.Ring(p)
	for _, q := range l {
		for _, r := range q.Rows {
			ring = cut(ring, r)
		}
	}
	var points [][]exact.Q
	for _, x := range ring {
		points = append(points, []exact.Q{x.X, x.Z})
	}
	return hull.Hull(2, points, nil)
}

// A canonical description of MaxRows rows is too long; others are found, however
// many rows there are on the way.
func TestUpdateAtItsLimit(t *testing.T) {
	around := box("-2 2, -2 2")
	for sides, want := range map[int]api.Errno{198: api.OK, 200: api.ErrLimit} {
		for _, f := range []int{0, 1} {
			_, e := sense.Update(round(sides, "1/2"), times(2, around), f)
			expectError(t, "Update of "+strconv.Itoa(sides)+" sides", e, want)
		}
	}
	p, other, half := round(180, "1/2"), round(30, "1/4"), poly(2, "1 0 0")
	_, e := shared(p, other)
	expectError(t, "a polygon of 210 sides", e, api.ErrLimit)
	expectUpdateError(t, p, []hull.Poly{other}, 0, api.ErrLimit)
	expectUpdateError(t, p, []hull.Poly{other, half}, 1, api.ErrLimit)
	want, e := shared(p, other, half)
	expectError(t, "its half", e, api.OK)
	expectUpdate(t, p, []hull.Poly{half, other}, 0, want)
	expectUpdate(t, p, []hull.Poly{other, half}, 0, want)
}

// P10.5, for enclosures and reports that look random.
func TestUpdateOfAnyEnclosures(t *testing.T) {
	s := source(1051)
	void, right := 0, 0
	for round := range 200 {
		n := 1 + round%3
		p, l := s.report(n), s.reports(1+s.below(3), n)
		points := crossings(append(l, p)...)
		for f := range l {
			span := fewer(t, n, agreed(points, p, l, f))
			got, e := sense.Update(p, l, f)
			if len(span) == 0 {
				void++
				expectError(t, "Update of "+polyText(p), e, api.ErrVoid)
				continue
			}
			right++
			expectOK(t, "Update of "+polyText(p)+" with "+polysText(l), polyText(got), e, hullText(n, span))
		}
	}
	if void < 20 || right < 150 {
		t.Error("only", right, "updates,", void, "void")
	}
}

// The same for reports that are not bounded.
func TestUpdateWithOpenReports(t *testing.T) {
	s := source(1052)
	right := 0
	for round := range 150 {
		n := 1 + round%3
		p := s.box(n, false)
		var l []hull.Poly
		for range 1 + s.below(4) {
			l = append(l, s.box(n, true))
		}
		for f := range l {
			span := agreed(grid(append(l, p)...), p, l, f)
			got, e := sense.Update(p, l, f)
			if len(span) == 0 {
				expectError(t, "Update of "+polyText(p), e, api.ErrVoid)
				continue
			}
			corners := fewer(t, n, agreed(crossings(append(l, p)...), p, l, f))
			right++
			expectOK(t, "Update of "+polyText(p)+" with "+polysText(l), polyText(got), e, hullText(n, corners))
			for _, x := range span {
				if !hull.Has(got, x) {
					t.Error("Update lacks", numsText(x))
				}
			}
		}
	}
	if right < 100 {
		t.Error("only", right, "updates")
	}
}

func expectTrack(t *testing.T, p hull.Poly, m sense.Model, rounds [][]hull.Poly, f int, want ...hull.Poly) {
	t.Helper()
	got, e := sense.Track(p, m, rounds, f)
	text := ""
	for _, q := range want {
		text += "{" + canonText(q) + "}"
	}
	expectOK(t, "Track of "+polyText(p), polysText(got), e, text)
}

func expectTrackError(t *testing.T, p hull.Poly, m sense.Model, rounds [][]hull.Poly, f int, want api.Errno) {
	t.Helper()
	got, e := sense.Track(p, m, rounds, f)
	expectError(t, "Track of "+polyText(p), e, want)
	expect(t, "Track with an error", polysText(got), "")
}

// P10.6: round by round, with reports and without.
func TestTrack(t *testing.T) {
	m := model("1", "2", box("-1 1"))
	expectTrack(t, box("0 0"), m, nil, 0)
	expectTrack(t, box("0 0"), m, [][]hull.Poly{nil, {}, nil}, -5, box("1 3"), box("2 6"), box("3 9"))
	rounds := [][]hull.Poly{boxes("2 10"), nil, boxes("5 13/2")}
	expectTrack(t, box("0 0"), m, rounds, 0, box("2 3"), box("3 6"), box("5 13/2"))
	rounds = [][]hull.Poly{boxes("2 10", "0 1"), nil, boxes("5 6", "8 9", "8 10")}
	expectTrack(t, box("0 0"), m, rounds, 1, box("1 3"), box("2 6"), box("8 9"))
	expectTrack(t, nothing(2), still(box("0 1, 0 1")), make([][]hull.Poly, 2), 0, nothing(2), nothing(2))
	expectTrack(t, box("0 *"), model("1", "1", box("0 0")), make([][]hull.Poly, 2), 0, box("1 *"), box("2 *"))
	expectTrack(t, everything(0), still(everything(0)), [][]hull.Poly{{everything(0)}}, 0, everything(0))
	turn := model("0 -1, 1 0", "0 0", point(nums("0 0")...))
	expectTrack(t, box("1 2, 0 1"), turn, make([][]hull.Poly, api.MaxTrack), 0, turns("1 2, 0 1", "-1 0, 1 2", "-2 -1, -1 0", "0 1, -2 -1")...)
}

// turns returns MaxTrack boxes, the second one first, and again from the front.
func turns(l ...string) []hull.Poly {
	var all []hull.Poly
	for i := range api.MaxTrack {
		all = append(all, box(l[(i+1)%len(l)]))
	}
	return all
}

// The errors of a round come behind all that was right before it, and nothing of
// that is left.
func TestTrackErrors(t *testing.T) {
	isArgs(t, "Track", func(p hull.Poly, m sense.Model) api.Errno {
		got, e := sense.Track(p, m, make([][]hull.Poly, 17), -1)
		expect(t, "Track with an error", polysText(got), "")
		return e
	})
	m := model("1", "0", box("0 1"))
	bent := hull.Poly{N: 1, Rows: []hull.Row{{A: nums("1 2")}}}
	long := hull.Poly{N: 1, Rows: times(api.MaxReport+1, box("0 1").Rows[0])}
	own, none, many := boxes("0 9"), boxes("20 30"), times(7, bent)
	expectTrackError(t, box("0 1"), m, make([][]hull.Poly, api.MaxTrack+1), 0, api.ErrLimit)
	expectTrackError(t, box("0 1"), m, append([][]hull.Poly{{bent}}, make([][]hull.Poly, api.MaxTrack)...), 0, api.ErrLimit)
	expectTrackError(t, box("0 1"), m, [][]hull.Poly{own, many, {bent}}, 0, api.ErrLimit)
	expectTrackError(t, box("0 1"), m, [][]hull.Poly{own, {bent}, many}, 0, api.ErrArg)
	expectTrackError(t, box("0 1"), m, [][]hull.Poly{nil, {long}}, 5, api.ErrArg)
	expectTrackError(t, box("0 1"), m, [][]hull.Poly{nil, boxes("0 1, 0 1")}, 5, api.ErrArg)
	expectTrackError(t, box("0 1"), m, [][]hull.Poly{own, none, many}, 0, api.ErrVoid)
	expectTrackError(t, box("0 1"), m, [][]hull.Poly{nil, own}, 1, api.ErrRange)
	expectTrackError(t, box("0 1"), m, [][]hull.Poly{nil, own}, -1, api.ErrRange)
	expectTrackError(t, box("0 1"), m, [][]hull.Poly{boxes("0 9", "0 8"), own}, 1, api.ErrRange)
	expectTrackError(t, box("0 *"), m, [][]hull.Poly{nil, own, many}, 0, api.ErrOpen)
	expectTrackError(t, box("0 *"), m, [][]hull.Poly{nil, own, many}, 1, api.ErrRange)
	expectTrackError(t, nothing(1), m, [][]hull.Poly{nil, own}, 0, api.ErrVoid)
	growing := still(round(90, "1/3"))
	expectTrackError(t, round(90, "2/3"), growing, [][]hull.Poly{nil, boxes("0 0, 0 0"), times(7, bent)}, 0, api.ErrLimit)
	turning := growing
	turn := exact.Turn(num("1/7"))
	turning.A = exact.Mat{{turn.C, turn.S.Neg()}, {turn.S, turn.C}}
	expectTrackError(t, round(90, "2/3"), turning, [][]hull.Poly{nil, {bent}}, 0, api.ErrLimit)
}

// P10.6, for models and reports that look random: Track is Predict and Update,
// again and again.
func TestTrackIsPredictAndUpdate(t *testing.T) {
	s := source(1060)
	right, wrong := 0, 0
	for round := range 120 {
		n := 1 + round%3
		p, m, f := s.report(n), s.model(n), s.below(3)
		var rounds [][]hull.Poly
		for range 1 + s.below(5) {
			rounds = append(rounds, s.reports(s.below(2)*(f+1+s.below(2)), n))
		}
		var want []hull.Poly
		var e api.Errno
		next := p
		for _, l := range rounds {
			if next, e = sense.Predict(next, m); e == api.OK && len(l) > 0 {
				next, e = sense.Update(next, l, f)
			}
			if e != api.OK {
				want = nil
				break
			}
			want = append(want, next)
		}
		if e == api.OK {
			right++
		} else {
			wrong++
		}
		got, wrong := sense.Track(p, m, rounds, f)
		expectError(t, "Track of "+polyText(p), wrong, e)
		expect(t, "Track of "+polyText(p), polysText(got), polysText(want))
	}
	if right < 40 || wrong < 20 {
		t.Error("only", right, "tracks,", wrong, "with an error")
	}
}
