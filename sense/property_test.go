package sense_test

import (
	"testing"

	"amble/api"
	"amble/exact"
	"amble/hull"
	"amble/sense"
)

// The properties of the chapter, for what looks random.

// around returns a report that contains a state; now and then just so.
func (s *source) around(x []exact.Q) hull.Poly {
	p := hull.Poly{N: len(x)}
	for i, q := range x {
		p.Rows = append(p.Rows,
			hull.Row{A: axis(len(x), i, num("1")), B: q.Add(s.one("0 1 2 1/3"))},
			hull.Row{A: axis(len(x), i, num("-1")), B: s.one("0 1 2 1/3").Sub(q)})
	}
	if s.chance(2) {
		a := s.numbers(len(x))
		p.Rows = append(p.Rows, hull.Row{A: a, B: dot(a, x).Add(s.one("0 0 1"))})
	}
	if s.chance(3) { // not bounded
		p.Rows = p.Rows[1:]
	}
	return p
}

// apart returns a report that does not contain a state.
func (s *source) apart(x []exact.Q) hull.Poly {
	return first(func() hull.Poly { return s.report(len(x)) }, func(p hull.Poly) bool { return !hull.Has(p, x) })
}

// P10.11: a state that moves by the model stays in the enclosures, as long as at
// most f reports of a round are wrong.
func TestEnclosing(t *testing.T) {
	s := source(1110)
	checked, lies := 0, 0
	for round := range 150 {
		n := 1 + round%3
		m, f := s.model(n), s.below(3)
		p := first(func() hull.Poly { return s.report(n) }, func(p hull.Poly) bool { return !isVoid(p) })
		x := s.inside(p)
		var rounds [][]hull.Poly
		var states [][]exact.Q
		for range 1 + s.below(5) {
			x = stepped(m, x, s.inside(m.Noise))
			states = append(states, x)
			var l []hull.Poly
			for range s.below(2) * (f + 1 + s.below(2)) {
				l = append(l, s.around(x))
			}
			for i := range min(f, len(l)) {
				if s.chance(2) {
					l[i], lies = s.apart(x), lies+1
				}
			}
			rounds = append(rounds, l)
		}
		enclosures, e := sense.Track(p, m, rounds, f)
		if e == api.ErrLimit {
			continue
		}
		expectError(t, "Track", e, api.OK)
		for i, x := range states {
			checked++
			if !hull.Has(enclosures[i], x) {
				t.Error("the enclosure", polyText(enclosures[i]), "lacks", numsText(x))
			}
		}
	}
	if checked < 300 || lies < 50 {
		t.Error("only", checked, "states,", lies, "lies")
	}
}

// P10.12: with f = 0 Fuse is what all reports have in common; with a greater f it
// contains what it was.
func TestHonestReports(t *testing.T) {
	s := source(1120)
	common, grown := 0, 0
	for round := range 200 {
		n := 1 + round%3
		l := s.reports(1+s.below(5), n)
		var before hull.Poly
		for f := range l {
			now, e := sense.Fuse(l, f)
			if e == api.ErrLimit {
				break
			}
			if f == 0 && e == api.OK {
				common++
				expect(t, "Fuse of honest reports", polyText(now), canonText(meet(l...)))
			}
			if f > 0 && before.N > 0 {
				within, _ := hull.Within(before, now)
				if e != api.OK || !within.Holds {
					t.Error("with", f, "of", polysText(l), "wrong Fuse lacks something")
				}
				grown++
			}
			before = now
		}
	}
	if common < 50 || grown < 100 {
		t.Error("only", common, "times something in common,", grown, "times more")
	}
}

// P10.13: the memory of ground.
func TestMemoryOfGround(t *testing.T) {
	s := source(1130)
	for range 500 {
		own, loads := s.soil(), s.loads(2+s.below(6))
		depths, e := sense.Press(own, loads)
		expectError(t, "Press", e, api.OK)
		most := exact.Max(loads...)
		for i, load := range loads {
			for k := range i {
				made := own.Sink.Sub(own.Give).Mul(sunk(own, loads[:i+1]).Sub(sunk(own, loads[:k+1])))
				if loads[k].Cmp(load) == 0 && depths[i].Sub(depths[k]).Cmp(made) != 0 {
					t.Error("under", load.Text(), "again", soilText(own), "is as deep as", depths[i].Text())
				}
			}
			if most.Cmp(own.Yield) <= 0 && depths[i].Cmp(own.Give.Mul(load)) != 0 {
				t.Error(soilText(own), "sinks under", load.Text())
			}
			more, _ := sense.Depth(own, exact.Max(loads[:i+1]...), load.Add(s.load()))
			if more.Cmp(depths[i]) < 0 {
				t.Error(soilText(own), "rises under a greater load than", load.Text())
			}
		}
	}
}

// sunk returns how much the greatest of the loads is above the yield.
func sunk(own sense.Soil, loads []exact.Q) exact.Q {
	return exact.Max(exact.Q{}, exact.Max(loads...).Sub(own.Yield))
}

// P10.14: the soil that was measured is learned; one more record makes the set
// smaller, or leaves it as it is.
func TestLearning(t *testing.T) {
	s := source(1140)
	smaller := 0
	for range 300 {
		own := s.soil()
		tolerance := s.one("0 1/10 1")
		l := s.measured(own, s.loads(1+s.below(8)), tolerance)
		before, e := sense.Learn(own.Yield, nil, tolerance)
		expectError(t, "Learn of nothing", e, api.OK)
		for i := range l {
			now, e := sense.Learn(own.Yield, l[:i+1], tolerance)
			expectError(t, "Learn of "+recordsText(l), e, api.OK)
			if !hull.Has(now, []exact.Q{own.Give, own.Sink}) {
				t.Error("Learn of", recordsText(l), "lacks", soilText(own))
			}
			within, _ := hull.Within(now, before)
			if !within.Holds {
				t.Error("Learn of", recordsText(l[:i+1]), "is more than without the last one")
			}
			if polyText(now) != polyText(before) {
				smaller++
			}
			before = now
		}
		got, e := sense.Yields([]exact.Q{own.Yield}, l, tolerance)
		expectOK(t, "Yields of "+recordsText(l), placesText(got), e, "[0]")
	}
	if smaller < 300 {
		t.Error("only", smaller, "records said something")
	}
}

// P10.15: under the load that is borne no soil of the set is too deep, under each
// greater load one is.
func TestBearingHolds(t *testing.T) {
	s := source(1150)
	borne, deeper := 0, 0
	for range 300 {
		set, points := s.soils()
		yield, peak, depth := s.load(), s.load(), s.load()
		load, e := sense.Bearing(set, yield, peak, depth)
		if e != api.OK {
			continue
		}
		borne++
		soils := append([][]exact.Q{s.inside(set), s.inside(set)}, points...)
		for _, more := range nums("0 1/1000000 1 1000") {
			isDeeper := false
			for _, x := range soils {
				own := sense.Soil{Give: x[0], Sink: x[1], Yield: yield}
				got, e := sense.Depth(own, peak, load.Add(more))
				expectError(t, "Depth", e, api.OK)
				isDeeper = isDeeper || got.Cmp(depth) > 0
			}
			if isDeeper != (more.Sign() > 0) {
				t.Error("Bearing of", polyText(set), "is", load.Text(), "but", more.Text(), "more makes a depth")
			}
			if isDeeper {
				deeper++
			}
		}
		_, high, e := sense.Forecast(set, yield, peak, load)
		if e != api.OK || high.Cmp(depth) > 0 {
			t.Error("Forecast under the load that is borne:", high.Text(), e)
		}
	}
	if borne < 100 || deeper < 300 {
		t.Error("only", borne, "borne,", deeper, "deeper")
	}
}
