package sense_test

import (
	"testing"

	"amble/api"
	"amble/exact"
	"amble/hull"
	"amble/sense"
)

func expectDepth(t *testing.T, s, peak, load, want string) {
	t.Helper()
	got, e := sense.Depth(soil(s), num(peak), num(load))
	expectOK(t, "Depth of "+s+" under "+load, got.Text(), e, want)
}

// P10.8: the depth under a load, for the peak before.
func TestDepth(t *testing.T) {
	own := "1/1000 1/100 100"
	expectDepth(t, own, "0", "0", "0")
	expectDepth(t, own, "0", "50", "1/20")
	expectDepth(t, own, "50", "50", "1/20")
	expectDepth(t, own, "100", "50", "1/20")
	expectDepth(t, own, "200", "50", "19/20")
	expectDepth(t, own, "50", "200", "11/10")
	expectDepth(t, own, "200", "200", "11/10")
	expectDepth(t, own, "200", "0", "9/10")
	expectDepth(t, own, "0", "100", "1/10")
	expectDepth(t, own, "0", "101", "11/100")
	expectDepth(t, "0 1 10", "0", "10", "0")
	expectDepth(t, "0 1 10", "0", "15", "5")
	expectDepth(t, "1/2 1/2 10", "100", "40", "20")
	expectDepth(t, "1/2 1 0", "0", "6", "6")
	expectDepth(t, "1/2 1 0", "8", "6", "7")
	expectDepth(t, "0 0 0", "7", "9", "0")
}

// wrongSoils are those that are not valid.
func wrongSoils() []string {
	return []string{"-1 1 0", "-1/1000 0 0", "2 1 0", "0 -1 0", "-2 -1 5", "1 2 -1"}
}

func TestDepthErrors(t *testing.T) {
	check := func(s, peak, load string, want api.Errno) {
		t.Helper()
		got, e := sense.Depth(soil(s), num(peak), num(load))
		expectError(t, "Depth of "+s+" under "+load, e, want)
		expect(t, "Depth with an error", got.Text(), "0")
	}
	for _, s := range wrongSoils() {
		check(s, "1", "1", api.ErrArg)
		check(s, "-1", "-1", api.ErrArg)
	}
	check("1 2 3", "-1", "1", api.ErrRange)
	check("1 2 3", "1", "-1/1000", api.ErrRange)
}

func expectPress(t *testing.T, s, loads, want string) {
	t.Helper()
	got, e := sense.Press(soil(s), nums(loads))
	expectOK(t, "Press of "+s+" under "+loads, numsText(got), e, "["+want+"]")
}

// P10.8: loads that follow each other.
func TestPress(t *testing.T) {
	own := "1/1000 1/100 100"
	expectPress(t, own, "50 200 50", "1/20 11/10 19/20")
	expectPress(t, own, "", "")
	expectPress(t, own, "0 0", "0 0")
	expectPress(t, own, "200 200 100 0 300 300", "11/10 11/10 1 9/10 21/10 21/10")
	expectPress(t, own, "300 200 100", "21/10 2 19/10")
	expectPress(t, own, "100 101 100", "1/10 11/100 109/1000")
	expectPress(t, "1/2 1/2 1", "3 1 2", "3/2 1/2 1")
}

func TestPressErrors(t *testing.T) {
	check := func(s string, loads []exact.Q, want api.Errno) {
		t.Helper()
		got, e := sense.Press(soil(s), loads)
		expectError(t, "Press of "+s, e, want)
		expect(t, "Press with an error", numsText(got), "[]")
	}
	many := times(api.MaxSenses, num("1"))
	got, e := sense.Press(soil("1 2 0"), many)
	expectOK(t, "Press of MaxSenses loads", numsText(got), e, numsText(times(api.MaxSenses, num("2"))))
	for _, s := range wrongSoils() {
		check(s, append(many, num("-1")), api.ErrArg)
		check(s, nil, api.ErrArg)
	}
	check("1 2 0", nums("1 -1 1"), api.ErrRange)
	check("1 2 0", append(many, num("-1")), api.ErrRange)
	check("1 2 0", append(many, num("1")), api.ErrLimit)
}

// depthOf is a second writing: what gives way, and what has sunk for good.
func depthOf(s sense.Soil, peak, load exact.Q) exact.Q {
	if load.Cmp(peak) > 0 {
		peak = load
	}
	depth := s.Give.Mul(load)
	if peak.Cmp(s.Yield) > 0 {
		depth = depth.Add(s.Sink.Sub(s.Give).Mul(peak.Sub(s.Yield)))
	}
	return depth
}

// P10.8, for soils and loads that look random.
func TestPressOfAnySoils(t *testing.T) {
	s := source(1080)
	for range 500 {
		own, loads := s.soil(), s.loads(s.below(9))
		var want []exact.Q
		var peak exact.Q
		for _, load := range loads {
			want = append(want, depthOf(own, peak, load))
			got, e := sense.Depth(own, peak, load)
			expectOK(t, "Depth of "+soilText(own), got.Text(), e, want[len(want)-1].Text())
			peak = exact.Max(peak, load)
		}
		got, e := sense.Press(own, loads)
		expectOK(t, "Press of "+soilText(own)+" under "+numsText(loads), numsText(got), e, numsText(want))
	}
}

func expectLearn(t *testing.T, yield, l, tolerance string, want hull.Poly) {
	t.Helper()
	got, e := sense.Learn(num(yield), records(l), num(tolerance))
	expectOK(t, "Learn of "+l, polyText(got), e, canonText(want))
}

// P10.9: the soils that records allow.
func TestLearn(t *testing.T) {
	expectLearn(t, "100", "50 1/20, 200 11/10", "0", point(nums("1/1000 1/100")...))
	expectLearn(t, "100", "", "0", poly(2, "-1 0 0, 1 -1 0"))
	expectLearn(t, "100", "", "5", poly(2, "-1 0 0, 1 -1 0"))
	expectLearn(t, "100", "50 1/20", "0", poly(2, "1 0 1/1000, -1 0 -1/1000, 0 -1 -1/1000"))
	expectLearn(t, "100", "50 1/20", "1/20", poly(2, "-1 0 0, 1 0 1/500, 1 -1 0"))
	expectLearn(t, "0", "10 1", "0", poly(2, "0 1 1/10, 0 -1 -1/10, -1 0 0, 1 0 1/10"))
	expectLearn(t, "0", "0 1", "1", poly(2, "-1 0 0, 1 -1 0")) // no load: it says nothing
	expectLearn(t, "0", "0 1", "1/2", nothing(2))
	expectLearn(t, "0", "0 0", "0", poly(2, "-1 0 0, 1 -1 0"))
	expectLearn(t, "0", "1 -1", "0", nothing(2))
	expectLearn(t, "0", "1 -1", "1", point(nums("0 0")...)) // only what does not give way at all
	expectLearn(t, "100", "50 1/20, 50 1/10", "0", nothing(2))
	expectLearn(t, "100", "50 1/20, 50 1/10", "1/40", poly(2, "1 0 3/2000, -1 0 -3/2000, 0 -1 -3/2000"))
}

// Loads that fall: the peak before them counts.
func TestLearnOfFallingLoads(t *testing.T) {
	expectLearn(t, "100", "200 11/10, 50 19/20", "0", point(nums("1/1000 1/100")...))
	expectLearn(t, "100", "200 11/10, 50 1/20", "0", nothing(2))
	expectLearn(t, "100", "200 0, 50 0, 0 0", "0", point(nums("0 0")...))
	expectLearn(t, "100", "200 11/10, 200 11/10", "0", poly(2, "1 1 11/1000, -1 -1 -11/1000, 0 -1 -11/2000, 0 1 11/1000"))
}

func TestLearnErrors(t *testing.T) {
	check := func(yield string, l []sense.Record, tolerance string, want api.Errno) {
		t.Helper()
		got, e := sense.Learn(num(yield), l, num(tolerance))
		expectError(t, "Learn of "+recordsText(l), e, want)
		expect(t, "Learn with an error", polyText(got), "0;")
	}
	many := times(api.MaxSenses, records("1 1")[0])
	got, e := sense.Learn(num("0"), many, num("0"))
	expectOK(t, "Learn of MaxSenses records", polyText(got), e, canonText(poly(2, "0 1 1, 0 -1 -1, -1 0 0, 1 0 1")))
	check("-1", append(many, records("-1 1")...), "-1", api.ErrLimit)
	check("0", append(many, many[0]), "0", api.ErrLimit)
	check("-1", many, "0", api.ErrRange)
	check("0", many, "-1/1000", api.ErrRange)
	check("0", records("1 1, -1 1"), "0", api.ErrRange)
}

func expectYields(t *testing.T, candidates, l, tolerance, want string) {
	t.Helper()
	got, e := sense.Yields(nums(candidates), records(l), num(tolerance))
	expectOK(t, "Yields of "+candidates+" for "+l, placesText(got), e, "["+want+"]")
}

// P10.9: the yields that records allow.
func TestYields(t *testing.T) {
	l := "50 1/20, 100 1/10, 200 11/10" // between 50 and 100 nothing sinks
	expectYields(t, "100 50 0 200 150 100", l, "0", "0 4 5")
	expectYields(t, "", l, "0", "")
	expectYields(t, "5 6", "", "0", "0 1")
	expectYields(t, "0 1000", "50 1/20, 40 1/20, 50 1/20", "0", "0")
	expectYields(t, "0 1000", "50 1/20, 40 1/10", "0", "")
	expectYields(t, "0 1000", "50 1/20, 40 1/10", "1", "0 1")
	expectYields(t, "0", "1 -1", "0", "")
}

func TestYieldsErrors(t *testing.T) {
	check := func(candidates []exact.Q, l []sense.Record, tolerance string, want api.Errno) {
		t.Helper()
		got, e := sense.Yields(candidates, l, num(tolerance))
		expectError(t, "Yields for "+recordsText(l), e, want)
		expect(t, "Yields with an error", placesText(got), "[]")
	}
	many, wrong := times(api.MaxSenses, records("1 1")[0]), records("-1 1")
	yields := times(api.MaxSenses, num("1"))
	got, e := sense.Yields(yields, many, num("0"))
	if len(got) != api.MaxSenses || e != api.OK {
		t.Error("Yields of MaxSenses candidates:", placesText(got), e)
	}
	check(yields, append(many, wrong...), "-1", api.ErrLimit)
	check(append(yields, num("-1")), wrong, "-1", api.ErrLimit)
	check(nil, append(many, many[0]), "0", api.ErrLimit)
	check(append(yields, yields[0]), nil, "0", api.ErrLimit)
	check(nums("1 -1"), nil, "0", api.ErrRange)
	check(nil, wrong, "0", api.ErrRange)
	check(nil, nil, "-1", api.ErrRange)
}

// fits reports whether a soil has the depths of records, up to the tolerance.
func fits(own sense.Soil, l []sense.Record, tolerance exact.Q) bool {
	var peak exact.Q
	for _, r := range l {
		if depthOf(own, peak, r.Load).Sub(r.Depth).Abs().Cmp(tolerance) > 0 {
			return false
		}
		peak = exact.Max(peak, r.Load)
	}
	return own.Give.Sign() >= 0 && own.Sink.Cmp(own.Give) >= 0
}

// P10.9, for records that look random: what is learned has just the soils that
// fit.
func TestLearnOfAnyRecords(t *testing.T) {
	s := source(1090)
	in, out, void := 0, 0, 0
	for range 400 {
		own := s.soil()
		tolerance := s.one("0 1/10 1 5")
		l := s.measured(own, s.loads(s.below(6)), tolerance.Mul(s.one("1 1 2")))
		set, e := sense.Learn(own.Yield, l, tolerance)
		expectError(t, "Learn of "+recordsText(l), e, api.OK)
		canon, _ := hull.Canon(set)
		expect(t, "Learn, canonical", polyText(set), polyText(canon))
		tries := []sense.Soil{own}
		points, rays, _ := hull.Corners(set)
		for _, x := range points {
			tries = append(tries, sense.Soil{Give: x[0], Sink: x[1], Yield: own.Yield})
			for range 4 {
				near := sense.Soil{Give: x[0].Add(s.one("0 1/1000 -1/1000")), Sink: x[1].Add(s.one("0 1/1000 -1/1000")), Yield: own.Yield}
				tries = append(tries, near)
			}
			for _, ray := range rays {
				tries = append(tries, sense.Soil{Give: x[0].Add(ray[0]), Sink: x[1].Add(ray[1]), Yield: own.Yield})
			}
		}
		for _, soil := range tries {
			is := fits(soil, l, tolerance)
			if hull.Has(set, []exact.Q{soil.Give, soil.Sink}) != is {
				t.Error("Learn of", recordsText(l), "is wrong about", soilText(soil))
			}
			if is {
				in++
			} else {
				out++
			}
		}
		var want []int
		candidates := append(s.loads(4), own.Yield)
		for i, yield := range candidates {
			if set, _ := sense.Learn(yield, l, tolerance); !isVoid(set) {
				want = append(want, i)
			} else {
				void++
			}
		}
		got, e := sense.Yields(candidates, l, tolerance)
		expectOK(t, "Yields of "+numsText(candidates), placesText(got), e, placesText(want))
	}
	if in < 1000 || out < 1000 || void < 200 {
		t.Error("only", in, "soils that fit,", out, "that do not,", void, "yields that do not")
	}
}

// triangle returns the set of soils between three of them.
func triangle() hull.Poly {
	set, _ := hull.Hull(2, lists("1/1000 1/100, 1/1000 1/50, 1/500 1/50"), nil)
	return set
}

func expectForecast(t *testing.T, set hull.Poly, yield, peak, load, want string) {
	t.Helper()
	low, high, e := sense.Forecast(set, num(yield), num(peak), num(load))
	expectOK(t, "Forecast of "+polyText(set)+" under "+load, low.Text()+" "+high.Text(), e, want)
}

// P10.10: the least and the greatest depth.
func TestForecast(t *testing.T) {
	own := point(nums("1/1000 1/100")...)
	expectForecast(t, own, "100", "0", "50", "1/20 1/20")
	expectForecast(t, own, "100", "200", "50", "19/20 19/20")
	expectForecast(t, triangle(), "100", "0", "50", "1/20 1/10")
	expectForecast(t, triangle(), "100", "0", "100", "1/10 1/5")
	expectForecast(t, triangle(), "100", "0", "200", "11/10 11/5")
	expectForecast(t, triangle(), "100", "200", "0", "9/10 19/10")
	expectForecast(t, triangle(), "100", "200", "100", "1 2")
	expectForecast(t, triangle(), "0", "0", "0", "0 0")
	expectForecast(t, triangle(), "0", "0", "1", "1/100 1/50")
	expectForecast(t, poly(2, "-1 0 0, 1 -1 0, 0 1 1"), "1", "1", "1", "0 1") // all soils that do not give more than 1
}

// expectSetErrors looks at the errors that all calls with a set of soils have.
// errorOf takes the yield, the peak, and a load or a depth.
func expectSetErrors(t *testing.T, call string, errorOf func(set hull.Poly, l []exact.Q) api.Errno) {
	t.Helper()
	check := func(what string, set hull.Poly, l string, want api.Errno) {
		t.Helper()
		expectError(t, call+" of "+what, errorOf(set, nums(l)), want)
	}
	bent := hull.Poly{N: 2, Rows: []hull.Row{{A: nums("1")}}}
	open := poly(2, "-1 0 0, 1 -1 0")
	check("a set that is not valid", bent, "-1 0 0", api.ErrArg)
	check("a set of too many rows", hull.Poly{N: 2, Rows: times(api.MaxRows+1, open.Rows[0])}, "0 0 0", api.ErrArg)
	for _, set := range []hull.Poly{box("0 1"), everything(0), everything(3), nothing(1), {N: -2}} {
		check("a set of another dimension", set, "-1 0 0", api.ErrArg)
	}
	for _, l := range []string{"-1 0 0", "0 -1 0", "0 0 -1/1000"} {
		check("numbers below 0", nothing(2), l, api.ErrRange)
		check("numbers below 0", open, l, api.ErrRange)
	}
	check("a void set", nothing(2), "0 0 0", api.ErrVoid)
	check("a void set whose rows bound nothing", poly(2, "1 0 0, -1 0 -1"), "0 0 0", api.ErrVoid)
	check("an open set", open, "0 0 0", api.ErrOpen)
	check("an open set with wrong corners", poly(2, "-1 0 1, 0 -1 1"), "0 0 0", api.ErrOpen)
	check("a set without corners", everything(2), "0 0 0", api.ErrOpen)
	check("a strip", poly(2, "1 0 1, -1 0 0"), "0 0 0", api.ErrOpen)
	check("a corner with Give below 0", box("-1/1000 1, 1 2"), "0 0 0", api.ErrArg)
	check("a corner with Give above Sink", box("0 1, 999/1000 2"), "0 0 0", api.ErrArg)
	check("a point with Give below 0", point(nums("-1 0")...), "0 0 0", api.ErrArg)
}

func TestForecastErrors(t *testing.T) {
	expectSetErrors(t, "Forecast", func(set hull.Poly, l []exact.Q) api.Errno {
		low, high, e := sense.Forecast(set, l[0], l[1], l[2])
		expect(t, "Forecast with an error", low.Text()+high.Text(), "00")
		return e
	})
}

func expectBearing(t *testing.T, set hull.Poly, yield, peak, depth, want string) {
	t.Helper()
	got, e := sense.Bearing(set, num(yield), num(peak), num(depth))
	expectOK(t, "Bearing of "+polyText(set)+" for "+depth, got.Text(), e, want)
}

func expectBearingError(t *testing.T, set hull.Poly, yield, peak, depth string, want api.Errno) {
	t.Helper()
	got, e := sense.Bearing(set, num(yield), num(peak), num(depth))
	expectError(t, "Bearing of "+polyText(set)+" for "+depth, e, want)
	expect(t, "Bearing with an error", got.Text(), "0")
}

// P10.10: the greatest load.
func TestBearing(t *testing.T) {
	own := point(nums("1/1000 1/100")...)
	expectBearing(t, own, "100", "0", "0", "0")
	expectBearing(t, own, "100", "0", "1/20", "50")
	expectBearing(t, own, "100", "0", "1/10", "100")
	expectBearing(t, own, "100", "0", "11/10", "200")
	// behind a peak of 200 it is at least 9/10 deep, and at 200 it is 11/10
	expectBearing(t, own, "100", "200", "9/10", "0")
	expectBearing(t, own, "100", "200", "19/20", "50")
	expectBearing(t, own, "100", "200", "11/10", "200")
	expectBearing(t, own, "100", "200", "12/10", "210")
	expectBearingError(t, own, "100", "200", "8/10", api.ErrNone)
	expectBearing(t, triangle(), "100", "0", "1/10", "50")
	expectBearing(t, triangle(), "100", "0", "11/5", "200")
	expectBearing(t, triangle(), "0", "0", "1/50", "1")
	// Give of 0: nothing gives way up to the yield, or up to the peak
	stiff := point(nums("0 1/10")...)
	expectBearing(t, stiff, "100", "0", "0", "100")
	expectBearing(t, stiff, "100", "50", "0", "100")
	expectBearing(t, stiff, "100", "0", "1", "110")
	expectBearing(t, stiff, "100", "110", "1", "110")
	expectBearingError(t, stiff, "100", "110", "99/100", api.ErrNone)
	// Give equal to Sink: it never sinks
	expectBearing(t, point(nums("1/2 1/2")...), "10", "1000", "20", "40")
	expectBearing(t, point(nums("0 1")...), "0", "0", "0", "0")
}

func TestBearingErrors(t *testing.T) {
	expectSetErrors(t, "Bearing", func(set hull.Poly, l []exact.Q) api.Errno {
		got, e := sense.Bearing(set, l[0], l[1], l[2])
		expect(t, "Bearing with an error", got.Text(), "0")
		return e
	})
	rock := point(nums("0 0")...)
	for _, depth := range []string{"0", "5"} {
		expectBearingError(t, rock, "100", "0", depth, api.ErrOpen)
		expectBearingError(t, rock, "0", "1000", depth, api.ErrOpen)
	}
	edge := poly(2, "1 0 0, -1 0 0, 0 -1 0, 0 1 1") // from rock to what sinks
	expectBearing(t, edge, "10", "0", "5", "15")
	expectBearingError(t, edge, "10", "20", "5", api.ErrNone)
	expectBearingError(t, box("-1 0, 0 1"), "10", "20", "5", api.ErrArg)
}

// P10.10, for sets that look random: depths are least and greatest at the soils
// that span them, and the load that is borne is just so great that the greatest
// of them is reached.
func TestForecastAndBearingOfAnySets(t *testing.T) {
	s := source(1100)
	none, open, borne := 0, 0, 0
	for range 500 {
		set, points := s.soils()
		yield, peak, load, depth := s.load(), s.load(), s.load(), s.load()
		deepest := func(load exact.Q) (low, high exact.Q) {
			var depths []exact.Q
			for _, x := range points {
				depths = append(depths, depthOf(sense.Soil{Give: x[0], Sink: x[1], Yield: yield}, peak, load))
			}
			return exact.Min(depths...), exact.Max(depths...)
		}
		least, most := deepest(load)
		low, high, e := sense.Forecast(set, yield, peak, load)
		expectOK(t, "Forecast of "+polyText(set), low.Text()+" "+high.Text(), e, least.Text()+" "+most.Text())
		got, e := sense.Bearing(set, yield, peak, depth)
		_, unloaded := deepest(exact.Q{})
		_, sunk := deepest(num("1000000").Add(yield).Add(peak))
		switch {
		case unloaded.Cmp(depth) > 0:
			none++
			expectError(t, "Bearing of "+polyText(set), e, api.ErrNone)
			continue
		case sunk.Sign() == 0:
			open++
			expectError(t, "Bearing of "+polyText(set), e, api.ErrOpen)
			continue
		}
		borne++
		expectError(t, "Bearing of "+polyText(set), e, api.OK)
		_, there := deepest(got)
		_, behind := deepest(got.Add(num("1/1000000")))
		if got.Sign() < 0 || there.Cmp(depth) != 0 || behind.Cmp(depth) <= 0 {
			t.Error("Bearing of", polyText(set), "is", got.Text(), "where the depth is", there.Text())
		}
	}
	if none < 50 || open < 10 || borne < 200 {
		t.Error("only", borne, "borne,", none, "times none,", open, "open")
	}
}
