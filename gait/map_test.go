package gait_test

import (
	"math"
	"slices"
	"testing"

	"amble/api"
	"amble/exact"
	"amble/gait"
)

// expectMapError checks the error of all calls with a map.
func expectMapError(t *testing.T, name string, m []gait.Hold, want api.Errno) {
	t.Helper()
	expectError(t, "CheckMap of "+name, gait.CheckMap(m), want)
	p := example()
	p.Map, p.Walker.Span, p.Walker.Long = m, num("1000"), num("1")
	if len(m) == 1 {
		p.Walker, p.Word, p.Start = walker("2 0 0 0 0 0 0 0 1"), word("1 3"), ints("0 0")
	}
	_, e := gait.Unroll(m, at("1000000 0"), 1)
	expectError(t, "Unroll of "+name, e, want)
	expectError(t, "CheckProblem with "+name, gait.CheckProblem(p), want)
	expectBool(t, "Possible with "+name, gait.Possible(p, gait.State{Holds: p.Start}), want == api.OK)
}

// P8.2: maps at the ends of what is valid, and beyond.
func TestMapErrors(t *testing.T) {
	for _, c := range []struct {
		name string
		m    []gait.Hold
		want api.Errno
	}{
		{"one foothold", row(1), api.OK},
		{"no foothold", nil, api.ErrArg},
		{"two footholds", row(2), api.OK},
		{"the greatest map", row(api.MaxHolds), api.OK},
		{"one foothold more", row(api.MaxHolds + 1), api.ErrArg},
		{"two footholds at one point", holds("0, 1, 0"), api.ErrArg},
		{"two footholds at one point, side by side", holds("0, 1 2, 1 2 3 4"), api.ErrArg},
		{"two footholds at one point, in other numbers", holds("0, 1/2, 1, 4/8 0 7"), api.ErrArg},
		{"two footholds at one X", holds("0, 0 1, 0 -1"), api.OK},
		{"two footholds at one Z", holds("0 1, 1 1, -1 1"), api.OK},
		{"points whose numbers are exchanged", holds("0 1, 1 0"), api.OK},
		{"a bearing and a cost", holds("0 0 1/2 0, 1 0 0 3, 2 0 5 6"), api.OK},
		{"a bearing below 0", holds("0, 1 0 -1/1000"), api.ErrArg},
		{"a cost below 0", holds("0, 1 0 0 -1/1000"), api.ErrArg},
		{"a bearing below 0 at first", holds("0 0 -1 0, 1"), api.ErrArg},
	} {
		expectMapError(t, c.name, c.m, c.want)
	}
	for i := range api.MaxHolds {
		if i > 0 {
			m := row(api.MaxHolds)
			m[i].At = m[(7*i+3)%i].At
			expectError(t, "CheckMap with two at one point", gait.CheckMap(m), api.ErrArg)
		}
		m := row(api.MaxHolds)
		m[i].Cost = num("-1")
		expectError(t, "CheckMap with a cost below 0", gait.CheckMap(m), api.ErrArg)
	}
}

// P8.2: walkers at the ends of what is valid, and beyond.
func TestWalkerErrors(t *testing.T) {
	for _, c := range []struct {
		walker string
		want   api.Errno
	}{
		{"2 0 0 0 0 0 0 0 1", api.OK},
		{"1 0 0 0 0 0 0 0 1/1000", api.OK},
		{"4 1 2 3 4 5 6 7 8", api.OK},
		{"0 0 0 0 0 0 0 0 1", api.ErrArg},
		{"5 0 0 0 0 0 0 0 1", api.ErrArg},
		{"-1 0 0 0 0 0 0 0 1", api.ErrArg},
		{"9223372036854775807 0 0 0 0 0 0 0 1", api.ErrArg},
		{"-9223372036854775808 0 0 0 0 0 0 0 1", api.ErrArg},
		{"4294967298 0 0 0 0 0 0 0 1", api.ErrArg},
		{"2 0 0 0 0 0 0 0 0", api.ErrArg},
		{"2 1 1 1 1 1 1 1 0", api.ErrArg},
		{"2 1 1 1 1 1 1 1 -1", api.ErrArg},
		{"2 -1/1000 1 1 1 1 1 1 1", api.ErrArg},
		{"2 1 -1/1000 1 1 1 1 1 1", api.ErrArg},
		{"2 1 1 -1/1000 1 1 1 1 1", api.ErrArg},
		{"2 1 1 1 -1/1000 1 1 1 1", api.ErrArg},
		{"2 1 1 1 1 -1/1000 1 1 1", api.ErrArg},
		{"2 1 1 1 1 1 -1/1000 1 1", api.ErrArg},
		{"2 1 1 1 1 1 1 -1/1000 1", api.ErrArg},
	} {
		w := walker(c.walker)
		expectError(t, "CheckWalker of "+c.walker, gait.CheckWalker(w), c.want)
		p := example()
		p.Map = holds("0, 0 1, 0 2, 0 3") // no feet are apart in X
		p.Walker, p.Start = w, ints("0 1 2 3")[:min(max(w.Legs, 0), 4)]
		want := c.want
		if w.Legs == 1 {
			want = api.ErrArg // there is no word for one leg
		}
		expectError(t, "CheckProblem with "+c.walker, gait.CheckProblem(p), want)
	}
}

// P8.6: the errors of Unroll, in their order.
func TestUnrollErrors(t *testing.T) {
	for _, c := range []struct {
		name   string
		m      []gait.Hold
		by     string
		copies int
		want   api.Errno
	}{
		{"once", row(4), "1 0", 1, api.OK},
		{"as often as it fits", row(4), "4 0", 16, api.OK},
		{"once too often", row(4), "4 0", 17, api.ErrLimit},
		{"as often as it fits, not in full", row(3), "3 0", 21, api.OK},
		{"once too often, not in full", row(3), "3 0", 22, api.ErrLimit},
		{"one foothold", row(1), "0 1", 64, api.OK},
		{"one foothold, once too often", row(1), "0 1", 65, api.ErrLimit},
		{"the greatest map", row(64), "1 0", 1, api.OK},
		{"the greatest map, twice", row(64), "1 0", 2, api.ErrLimit},
		{"very often", row(4), "1 0", math.MaxInt, api.ErrLimit},
		{"so often that the product is small", row(4), "1 0", 1<<62 + 1, api.ErrLimit},
		{"not at all", row(4), "1 0", 0, api.ErrRange},
		{"less than that", row(4), "1 0", -1, api.ErrRange},
		{"least often", row(4), "1 0", math.MinInt, api.ErrRange},
		{"onto itself", row(4), "1 0", 2, api.ErrArg},
		{"onto itself, the other way", row(4), "-3 0", 2, api.ErrArg},
		{"onto itself in the third copy", holds("0, 4"), "2 0", 3, api.ErrArg},
		{"not yet onto itself", holds("0, 4 1"), "2 1", 2, api.OK},
		{"beside itself", row(4), "1 1", 2, api.OK},
		{"between itself", row(4), "1/2 0", 2, api.OK},
		{"nowhere", row(4), "0 0", 1, api.ErrArg},
		{"nowhere, not at all", row(4), "0 0", 0, api.ErrArg},
		{"nowhere, too often", row(4), "0 0", 17, api.ErrArg},
		{"onto itself, too often", row(4), "1 0", 17, api.ErrLimit},
		{"upward", row(4), "0 1/7", 2, api.OK},
		{"nothing", nil, "1 0", 2, api.ErrArg},
		{"nothing, not at all", nil, "1 0", 0, api.ErrArg},
		{"what is not valid", holds("0, 0"), "1 0", 0, api.ErrArg},
		{"what is too much", row(65), "1 0", 1, api.ErrArg},
	} {
		_, e := gait.Unroll(c.m, at(c.by), c.copies)
		expectError(t, "Unroll "+c.name, e, c.want)
	}
}

// P8.6: copies of maps.
func TestUnroll(t *testing.T) {
	m, e := gait.Unroll(holds("0 0 3 1/2, 1 1 0 2"), at("5 -1/2"), 3)
	want := holds("0 0 3 1/2, 1 1 0 2, 5 -1/2 3 1/2, 6 1/2 0 2, 10 -1 3 1/2, 11 0 0 2")
	expectOK(t, "Unroll", mapText(m), e, mapText(want))
	m, e = gait.Unroll(holds("2 1 0 2, 0 0 3 1/2"), at("0 5"), 1)
	expectOK(t, "Unroll once", mapText(m), e, mapText(holds("2 1 0 2, 0 0 3 1/2")))
	s := source(812)
	met := 0
	for range 300 {
		m := s.land(1 + s.below(6))
		by, copies := exact.Point{X: s.one("0 1 1/2 5 -1"), Z: s.one("0 0 1 -1/2 1/7")}, 1+s.below(5)
		var want []gait.Hold
		isMeeting := by.X.Sign() == 0 && by.Z.Sign() == 0
		way := exact.Point{}
		for range copies {
			for _, h := range m {
				h.At = h.At.Add(way)
				isHere := func(o gait.Hold) bool { return o.At.X.Cmp(h.At.X) == 0 && o.At.Z.Cmp(h.At.Z) == 0 }
				isMeeting = isMeeting || slices.ContainsFunc(want, isHere)
				want = append(want, h)
			}
			way = way.Add(by)
		}
		got, e := gait.Unroll(m, by, copies)
		if isMeeting {
			met++
			expectError(t, "Unroll of "+mapText(m), e, api.ErrArg)
			continue
		}
		expectOK(t, "Unroll of "+mapText(m), mapText(got), e, mapText(want))
	}
	if met < 50 || met > 200 {
		t.Error(met, "copies meet")
	}
}
