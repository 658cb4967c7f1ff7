package balance_test

import (
	"math"
	"strconv"
	"testing"

	"amble/api"
	"amble/balance"
	"amble/exact"
	"amble/hull"
)

// P7.6: the sets of the chapter's pendulum, with and without pushes, and of
// others.
func TestSets(t *testing.T) {
	for _, c := range []struct {
		name string
		p    balance.Pendulum
		k    int
		want string
	}{
		{"the chapter's pendulum", third("0"), 0, "-1 -1 1/10, -1 0 1/2, 1 0 1/2, 1 1 1/10"},
		{"the chapter's pendulum", third("0"), 1, "-1 -1 1/10, -1 0 1/2, 1 0 1/2, 1 1 7/20, 3 5 27/10"},
		{"the chapter's pendulum", third("0"), 2, "-1 -1 1/10, -1 0 1/2, 1 0 1/2, 1 1 19/40, 5 3 21/10"},
		{"pushes", third("1/20"), 0, "-1 -1 1/10, -1 0 1/2, 1 0 1/2, 1 1 1/10"},
		{"pushes", third("1/20"), 1, "-1 -1 1/20, -1 0 1/2, 1 0 1/2, 1 1 3/10, 3 5 49/20"},
		{"pushes", third("1/20"), 2, "-1 -1 1/40, -1 0 1/2, 1 0 1/2, 1 1 2/5, 5 3 39/20"},
		{"the greatest pushes for one step", third("9/40"), 1, "1 1 1/8, -1 -1 -1/8, 0 -1 3/8, 0 1 3/5"},
		{"pushes too great for one step", third("9/40"), 2, "0 0 -1"},
		{"pushes too great", third("23/100"), 1, "0 0 -1"},
		{"pushes too great, behind them", third("23/100"), 2, "0 0 -1"},
		{"pushes too great, at last", third("23/100"), 4, "0 0 -1"},
		{"one point", pendulum("1/2 0 0 0 0 0 0 0"), 0, "1 0 0, -1 0 0, 0 1 0, 0 -1 0"},
		{"one point", pendulum("1/2 0 0 0 0 0 0 0"), 4, "1 0 0, -1 0 0, 0 1 0, 0 -1 0"},
		{"a foot without length", pendulum("1/2 1 1 0 3 0 0 0"), 0, "1 1 1, -1 -1 -1, 0 -1 2, 0 1 1"},
		{"bounds as long as the foot", pendulum("1/2 -1 1 -1 1 0 0 0"), 0, "-1 -1 1, -1 0 1, 1 0 1, 1 1 1"},
		{"a step that is too long", pendulum("1/2 0 0 0 0 1 1 0"), 1, "0 0 -1"},
	} {
		set, e := balance.Capture(c.p, c.k)
		name := c.name + ", " + strconv.Itoa(c.k)
		expectOK(t, "Capture of "+name, polyText(set), e, polyText(poly(c.want)))
		if c.k == 0 {
			rest, e := balance.Rest(c.p)
			expectOK(t, "Rest of "+name, polyText(rest), e, polyText(poly(c.want)))
		}
	}
	// Without pushes the ready sets are the capture sets.
	for k := 1; k <= api.MaxSteps; k++ {
		ready, e := balance.Ready(third("0"), k)
		capture, f := balance.Capture(third("0"), k)
		expectError(t, "Capture", f, api.OK)
		expectOK(t, "Ready without pushes", polyText(ready), e, polyText(capture))
	}
	ready, e := balance.Ready(third("1/20"), 2)
	expectOK(t, "Ready with pushes", polyText(ready), e, "2;[-1 -1]3/40;[-1 0]1/2;[1 0]1/2;[1 1]9/20;[5 3]21/10;")
	ready, e = balance.Ready(third("23/100"), 1)
	expectOK(t, "Ready for pushes that are too great", polyText(ready), e, "2;[-1 -1]1/10;[-1 0]1/2;[1 0]1/2;[1 1]7/20;[3 5]27/10;")
	ready, e = balance.Ready(third("23/100"), 2)
	expectOK(t, "Ready with nothing to reach", polyText(ready), e, "2;[0 0]-1;")
}

// between returns the polyhedron of the points on the way from a to b.
func between(a, b []exact.Q) hull.Poly {
	p, _ := hull.Hull(2, [][]exact.Q{a, b}, nil)
	return p
}

// strip returns the states in bounds.
func strip(p balance.Pendulum) hull.Poly {
	return hull.Poly{N: 2, Rows: []hull.Row{{A: nums("-1 0"), B: p.Near.Neg()}, {A: nums("1 0"), B: p.Far}}}
}

// readySet is the ready set before a capture set: that is moved back by the
// lengths, cut at the bounds, moved back by what the pressures do, turned back,
// and cut at the bounds.
func readySet(p balance.Pendulum, goal hull.Poly) hull.Poly {
	one, square := num("1"), p.Grow.Mul(p.Grow)
	c := over(one.Add(square), one.Sub(square))
	s := over(p.Grow.Add(p.Grow), one.Sub(square))
	set, _ := hull.Sum(goal, between([]exact.Q{p.Short, {}}, []exact.Q{p.Long, {}}))
	set, _ = hull.Meet(set, strip(p))
	back := func(pressure exact.Q) []exact.Q {
		return []exact.Q{c.Sub(one).Mul(pressure), s.Mul(pressure)}
	}
	set, _ = hull.Sum(set, between(back(p.Heel), back(p.Toe)))
	set, _ = hull.Image(set, exact.Mat{{c, s.Neg()}, {s.Neg(), c}}, make([]exact.Q, 2))
	set, _ = hull.Meet(set, strip(p))
	set, _ = hull.Canon(set)
	return set
}

// captureSet is the capture set before pushes, of a ready set.
func captureSet(p balance.Pendulum, ready hull.Poly) hull.Poly {
	same := exact.Mat{nums("1 0"), nums("0 1")}
	back, _ := hull.Image(ready, same, []exact.Q{{}, p.Push})
	forth, _ := hull.Image(ready, same, []exact.Q{{}, p.Push.Neg()})
	set, _ := hull.Meet(back, forth)
	set, _ = hull.Canon(set)
	return set
}

// P7.6: for any pendulum, the sets are those that sums and images of polygons
// give.
func TestAnySets(t *testing.T) {
	s := source(730)
	void, flat, full := 0, 0, 0
	for range 60 {
		p := s.pendulum()
		set, e := balance.Rest(p)
		want := strip(p)
		want.Rows = append(want.Rows, hull.Row{A: nums("-1 -1"), B: p.Heel.Neg()}, hull.Row{A: nums("1 1"), B: p.Toe})
		want, _ = hull.Canon(want)
		expectOK(t, "Rest of "+pendulumText(p), polyText(set), e, polyText(want))
		zero, e := balance.Capture(p, 0)
		expectOK(t, "Capture of 0 of "+pendulumText(p), polyText(zero), e, polyText(want))
		for k := 1; k <= api.MaxSteps; k++ {
			name := strconv.Itoa(k) + " of " + pendulumText(p)
			want = readySet(p, want)
			ready, e := balance.Ready(p, k)
			expectOK(t, "Ready of "+name, polyText(ready), e, polyText(want))
			want = captureSet(p, want)
			set, e := balance.Capture(p, k)
			expectOK(t, "Capture of "+name, polyText(set), e, polyText(want))
			switch n, _ := hull.Dim(set); n {
			case -1:
				void++
			case 2:
				full++
			default:
				flat++
			}
		}
	}
	if void < 20 || flat < 3 || full < 60 {
		t.Error("sets that are void, flat and full:", void, flat, full)
	}
}

// oddCounts are numbers of steps that no function takes.
func oddCounts() []int {
	return []int{math.MinInt, -1000, -1, api.MaxSteps + 1, api.MaxSteps + 2, 1 << 32, math.MaxInt}
}

// The errors of all calls with a pendulum and a number of steps, in order.
func TestCountErrors(t *testing.T) {
	type call struct {
		name  string
		least int
		run   func(p balance.Pendulum, k int) api.Errno
	}
	s := state("0 0")
	all := []call{
		{"Ready", 1, func(p balance.Pendulum, k int) api.Errno { _, e := balance.Ready(p, k); return e }},
		{"Capture", 0, func(p balance.Pendulum, k int) api.Errno { _, e := balance.Capture(p, k); return e }},
		{"Choices", 1, func(p balance.Pendulum, k int) api.Errno { _, e := balance.Choices(p, k, s); return e }},
		{"Choose", 1, func(p balance.Pendulum, k int) api.Errno { _, _, e := balance.Choose(p, k, s); return e }},
		{"Refuse", 1, func(p balance.Pendulum, k int) api.Errno { _, e := balance.Refuse(p, k, state("9 9")); return e }},
		{"Pushes", 1, func(p balance.Pendulum, k int) api.Errno { _, _, e := balance.Pushes(p, k, s); return e }},
		{"Stop", 0, func(p balance.Pendulum, k int) api.Errno {
			_, _, e := balance.Stop(p, k, s, make([]exact.Q, min(max(k, 0), 100)))
			return e
		}},
	}
	for _, c := range all {
		for k := c.least; k <= api.MaxSteps; k++ {
			expectError(t, c.name+" of "+strconv.Itoa(k), c.run(third("1/20"), k), api.OK)
		}
		if c.least == 1 {
			expectError(t, c.name+" of 0", c.run(third("0"), 0), api.ErrRange)
		}
		for _, k := range oddCounts() {
			expectError(t, c.name+" of "+strconv.Itoa(k), c.run(third("0"), k), api.ErrRange)
			for _, p := range wrongPendulums() {
				expectError(t, c.name+" of "+pendulumText(p), c.run(p, k), api.ErrArg)
			}
		}
		for _, p := range wrongPendulums() {
			expectError(t, c.name+" of "+pendulumText(p), c.run(p, 1), api.ErrArg)
		}
	}
	for _, p := range wrongPendulums() {
		_, e := balance.Rest(p)
		expectError(t, "Rest of "+pendulumText(p), e, api.ErrArg)
	}
}
