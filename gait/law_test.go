package gait_test

import (
	"slices"
	"testing"

	"amble/api"
	"amble/balance"
	"amble/exact"
	"amble/gait"
)

// expectPendulumError checks the error of all calls with a pendulum.
func expectPendulumError(t *testing.T, name string, p balance.Pendulum, want api.Errno) {
	t.Helper()
	l := law("0 1 1 0 0 0")
	_, _, e := gait.Return(p, l)
	expectError(t, "Return with "+name, e, want)
	_, e = gait.Fixed(p, law("0 0 0 0 0 0"))
	expectError(t, "Fixed with "+name, e, want)
	_, e = gait.Stable(p, l)
	expectError(t, "Stable with "+name, e, want)
	_, e = gait.Walk(p, l, balance.State{}, make([]exact.Q, 1))
	expectError(t, "Walk with "+name, e, want)
	_, e = gait.Allowed(p, l)
	expectError(t, "Allowed with "+name, e, want)
	_, _, e = gait.Basin(p, l, 1)
	expectError(t, "Basin with "+name, e, want)
	origin := poly("1 0 0, -1 0 0, 0 1 0, 0 -1 0")
	expectBool(t, "ProveBasin with "+name, gait.ProveBasin(p, l, origin), want == api.OK)
}

// All calls with a pendulum return its error.
func TestPendulumErrors(t *testing.T) {
	for _, c := range []struct {
		pendulum string
		want     api.Errno
	}{
		{"1/3 -1/10 1/10 -1/2 1/2 0 1/2 0", api.OK},
		{"1/3 0 0 0 0 0 0 0", api.OK},
		{"999/1000 -1/10 1/10 -1/2 1/2 0 0 0", api.OK},
		{"1 -1/10 1/10 -1/2 1/2 0 1/2 0", api.ErrArg},
		{"0 -1/10 1/10 -1/2 1/2 0 1/2 0", api.ErrArg},
		{"-1/3 -1/10 1/10 -1/2 1/2 0 1/2 0", api.ErrArg},
		{"4/3 -1/10 1/10 -1/2 1/2 0 1/2 0", api.ErrArg},
		{"1/3 1/5 1/10 -1/2 1/2 0 1/2 0", api.ErrArg},
		{"1/3 -3/5 1/10 -1/2 1/2 0 1/2 0", api.ErrArg},
		{"1/3 -1/10 3/5 -1/2 1/2 0 1/2 0", api.ErrArg},
		{"1/3 -1/10 1/10 -1/2 1/2 1 1/2 0", api.ErrArg},
		{"1/3 -1/10 1/10 -1/2 1/2 0 1/2 -1/1000", api.ErrArg},
		{"0 0 0 0 0 0 0 0", api.ErrArg},
	} {
		expectPendulumError(t, c.pendulum, pendulum(c.pendulum), c.want)
	}
}

// P8.7: return maps that are written out, for c = 5/4 and s = 3/4.
func TestReturn(t *testing.T) {
	for _, c := range []struct{ law, m, v string }{
		{"0 1 1 0 0 0", "[1 1/2][0 1/2]", "[0 0]"},
		{"0 0 0 0 0 0", "[5/4 3/4][3/4 5/4]", "[0 0]"},
		{"1 0 0 0 0 0", "[5/4 3/4][3/4 5/4]", "[-1/4 -3/4]"},
		{"0 0 0 1 0 0", "[5/4 3/4][3/4 5/4]", "[-1 0]"},
		{"0 1 0 0 0 0", "[1 3/4][0 5/4]", "[0 0]"},
		{"0 0 1 0 0 0", "[5/4 1/2][3/4 1/2]", "[0 0]"},
		{"0 0 0 0 1 0", "[1/4 3/4][3/4 5/4]", "[0 0]"},
		{"0 0 0 0 0 1", "[5/4 -1/4][3/4 5/4]", "[0 0]"},
		{"1/10 1 1 1/5 1/4 -1", "[3/4 3/2][0 1/2]", "[-9/40 -3/40]"},
	} {
		m, v, e := gait.Return(third("0"), law(c.law))
		expectOK(t, "Return of "+c.law, matrixText(m)+" "+numsText(v), e, c.m+" "+c.v)
	}
}

// stepped returns the state to which a law leads a state after a push, and what
// is between.
func stepped(r rhythm, s balance.State) (pressure, length exact.Q, swung, next balance.State) {
	l := r.l
	pressure = exact.Sum(l.Pressure, l.KX.Mul(s.X), l.KV.Mul(s.V))
	length = exact.Sum(l.Step, l.JX.Mul(s.X), l.JV.Mul(s.V))
	swung, _ = balance.Swing(r.p, s, pressure)
	return pressure, length, swung, balance.State{X: swung.X.Sub(length), V: swung.V}
}

// P8.7: return maps of laws that look random: they do what swings do.
func TestRandomReturn(t *testing.T) {
	s := source(870)
	for range 300 {
		r := rhythm{s.pendulum(), s.law()}
		m, v, e := gait.Return(r.p, r.l)
		expectError(t, "Return of "+r.text(), e, api.OK)
		at := balance.State{X: s.number(), V: s.number()}
		_, _, _, want := stepped(r, at)
		got, e := exact.Apply(m, numbers(at))
		expectOK(t, "Return of "+r.text(), numsText([]exact.Q{got[0].Add(v[0]), got[1].Add(v[1])}), e, stateText(want))
		expect(t, "the law of that return map", lawText(lawFor(r.p, m, v)), lawText(r.l))
	}
}

// matrix returns the matrix and the numbers of a text with six numbers: the
// first row, the second one, and what is added.
func matrix(s string) (exact.Mat, []exact.Q) {
	l := nums(s)
	return exact.Mat{l[:2], l[2:4]}, l[4:]
}

// P8.7: fixed states that are written out.
func TestFixed(t *testing.T) {
	for _, c := range []struct {
		name, back, want string
		e                api.Errno
	}{
		{"nothing is added", "1/2 0 0 1/2 0 0", "[0 0]", api.OK},
		{"something is added", "1/2 0 0 1/2 1 -1/4", "[2 -1/2]", api.OK},
		{"what moves away from it", "2 0 0 3 1 1", "[-1 -1/2]", api.OK},
		{"what turns", "0 -1 1 0 1 0", "[1/2 1/2]", api.OK},
		{"all states", "1 0 0 1 0 0", "", api.ErrMany},
		{"a line of states", "1 1/2 0 1/2 0 0", "", api.ErrMany},
		{"a line of states, beside the origin", "1 1/2 0 1/2 1 -1", "", api.ErrMany},
		{"another line of states", "1/2 1/2 1/2 1/2 0 0", "", api.ErrMany},
		{"all move", "1 0 0 1 1 0", "", api.ErrNone},
		{"those of a line do not stay", "1 1/2 0 1/2 1 0", "", api.ErrNone},
		{"nor those of another line", "1/2 1/2 1/2 1/2 1 1", "", api.ErrNone},
		{"all slide", "1 1 0 1 0 1/5", "", api.ErrNone},
		{"those of another line do", "1/2 1/2 1/2 1/2 1 -1", "", api.ErrMany},
		{"a map to one state", "0 0 0 0 7 -9", "[7 -9]", api.OK},
	} {
		m, v := matrix(c.back)
		got, e := gait.Fixed(third("0"), lawFor(third("0"), m, v))
		if c.e != api.OK {
			expectError(t, "Fixed: "+c.name, e, c.e)
			continue
		}
		expectOK(t, "Fixed: "+c.name, stateText(got), e, c.want)
	}
}

// P8.7: fixed states of return maps that look random, by the rule of Cramer.
func TestRandomFixed(t *testing.T) {
	s := source(871)
	seen := map[api.Errno]int{}
	for range 600 {
		p := s.pendulum()
		part := func() exact.Q { return s.one("0 0 1 1 1/2 -1 2") }
		m, v := exact.Mat{{part(), part()}, {part(), part()}}, []exact.Q{s.one("0 0 1"), s.one("0 0 1")}
		one := num("1")
		a, b, c, d := one.Sub(m[0][0]), m[0][1].Neg(), m[1][0].Neg(), one.Sub(m[1][1])
		det := a.Mul(d).Sub(b.Mul(c))
		top, side := v[0].Mul(d).Sub(b.Mul(v[1])), a.Mul(v[1]).Sub(v[0].Mul(c))
		isFree := a.Sign() == 0 && b.Sign() == 0 && c.Sign() == 0 && d.Sign() == 0
		want := api.OK
		switch {
		case det.Sign() != 0:
		case top.Sign() == 0 && side.Sign() == 0 && (!isFree || v[0].Sign() == 0 && v[1].Sign() == 0):
			want = api.ErrMany
		default:
			want = api.ErrNone
		}
		seen[want]++
		got, e := gait.Fixed(p, lawFor(p, m, v))
		name := "Fixed of " + matrixText(m) + numsText(v)
		expectError(t, name, e, want)
		if want == api.OK {
			expect(t, name, stateText(got), numsText([]exact.Q{over(top, det), over(side, det)}))
		}
	}
	if len(seen) != 3 || seen[api.ErrNone] < 50 || seen[api.ErrMany] < 50 {
		t.Error("fixed states:", seen)
	}
}

// P8.7: what is stable, and what just is not.
func TestStable(t *testing.T) {
	for _, c := range []struct {
		name, back string
		want       bool
	}{
		{"to one state at once", "0 0 0 0 1 1", true},
		{"half as far", "1/2 0 0 1/2 1 1", true},
		{"almost as far", "999/1000 0 0 1/2 0 0", true},
		{"as far in one direction", "1 0 0 1/2 0 0", false},
		{"farther in one direction", "1001/1000 0 0 1/2 0 0", false},
		{"almost as far to the other side", "-999/1000 0 0 1/2 0 0", true},
		{"as far to the other side", "-1 0 0 1/2 0 0", false},
		{"to both sides", "999/1000 0 0 -999/1000 0 0", true},
		{"as far to both sides", "1 0 0 -1 0 0", false},
		{"much farther to both sides", "2 0 0 -2 0 0", false},
		{"around, as far", "0 -1 1 0 0 0", false},
		{"around, almost as far", "0 -1 999/1000 0 0 0", true},
		{"around, farther", "0 -1 1001/1000 0 0 0", false},
		{"sideways, and nearer", "1/2 100 0 1/2 0 0", true},
		{"as far, sideways", "1 1 0 1 0 0", false},
		{"much farther in both directions", "2 0 0 2 0 0", false},
		{"the chapter's law", "1 1/2 0 1/2 0 0", false},
	} {
		m, v := matrix(c.back)
		got, e := gait.Stable(third("0"), lawFor(third("0"), m, v))
		expectError(t, "Stable: "+c.name, e, api.OK)
		expectBool(t, "Stable: "+c.name, got, c.want)
	}
}

// shrinks reports whether all factors of a matrix are below 1 in size: the roots
// of its polynomial, or, where there are none, the root of the determinant.
func shrinks(m exact.Mat) bool {
	trace, det := m[0][0].Add(m[1][1]), m[0][0].Mul(m[1][1]).Sub(m[0][1].Mul(m[1][0]))
	roots, _ := exact.Roots(num("1"), trace.Neg(), det)
	for _, root := range roots {
		above, _ := root.Cmp(exact.Surd{A: num("1")})
		below, _ := root.Cmp(exact.Surd{A: num("-1")})
		if above >= 0 || below <= 0 {
			return false
		}
	}
	return len(roots) > 0 || det.Cmp(num("1")) < 0
}

// P8.7: laws that look random.
func TestRandomStable(t *testing.T) {
	s := source(872)
	stable := 0
	for range 600 {
		p := s.pendulum()
		part := func() exact.Q { return s.one("0 1/2 1 -1 -1/2 3/2 -1/4") }
		m := exact.Mat{{part(), part()}, {part(), part()}}
		got, e := gait.Stable(p, lawFor(p, m, nums("0 1")))
		expectError(t, "Stable of "+matrixText(m), e, api.OK)
		expectBool(t, "Stable of "+matrixText(m), got, shrinks(m))
		if got {
			stable++
		}
	}
	if stable < 100 || stable > 500 {
		t.Error(stable, "laws are stable")
	}
}

// repeated returns a list of n equal numbers.
func repeated(s string, n int) []exact.Q { return slices.Repeat(nums(s), n) }

// P8.8: the errors of Walk, in their order.
func TestWalkErrors(t *testing.T) {
	calm, far := "0 1 1 0 0 0", "0 0 0 1/2 1 0" // far: a step that may be too long
	for _, c := range []struct {
		name, law, state string
		pushes           []exact.Q
		want             api.Errno
	}{
		{"no push", calm, "0 0", nil, api.OK},
		{"no push, out of bounds", calm, "9 0", nil, api.OK},
		{"as many as can be", calm, "0 0", repeated("0", api.MaxWalk), api.OK},
		{"one more", calm, "0 0", repeated("0", api.MaxWalk+1), api.ErrLimit},
		{"many too great ones", calm, "0 0", repeated("9", api.MaxWalk+1), api.ErrLimit},
		{"the greatest push", calm, "0 0", nums("1/50"), api.OK},
		{"the least push", calm, "0 0", nums("-1/50"), api.OK},
		{"a greater push", calm, "0 0", nums("0 0 21/1000"), api.ErrRange},
		{"a lesser push", calm, "0 0", nums("0 -21/1000 0"), api.ErrRange},
		{"a greater push behind a step that is not good", calm, "9 -9", nums("0 21/1000"), api.ErrRange},
		{"a lesser push behind a step that is not good", calm, "9 -9", nums("0 -21/1000"), api.ErrRange},
		{"a state out of bounds", calm, "9 -9", nums("0"), api.ErrState},
		{"a pressure out of its interval", calm, "0 1/5", nums("0"), api.ErrRange},
		{"and a state out of bounds", calm, "9 0", nums("0"), api.ErrRange},
		{"a length out of its interval", far, "1/4 -1/2", nums("0"), api.ErrRange},
		{"a step that is good", far, "0 0", nums("0"), api.OK},
		{"a second step that is not", far, "0 0", nums("0 1/50"), api.ErrState},
		{"at first not good, then out of its interval", far, "-1/2 -1/4", nums("0 0"), api.ErrState},
		{"a push that leads to a pressure out of its interval", calm, "0 9/100", nums("1/50"), api.ErrRange},
		{"pushes that add up", calm, "0 0", repeated("1/50", 5), api.OK},
		{"pushes that add up too much", calm, "0 0", repeated("1/50", 6), api.ErrRange},
	} {
		_, e := gait.Walk(third("1/50"), law(c.law), state(c.state), c.pushes)
		expectError(t, "Walk: "+c.name, e, c.want)
	}
	wrong := third("-1")
	_, e := gait.Walk(wrong, law(calm), state("0 0"), repeated("9", api.MaxWalk+1))
	expectError(t, "Walk of many too great pushes with a wrong pendulum", e, api.ErrArg)
}

// P8.8: walks that are written out.
func TestWalk(t *testing.T) {
	for _, c := range []struct{ law, state, pushes, want string }{
		{"0 1 1 0 0 0", "0 0", "", ""},
		{"0 1 1 0 0 0", "0 0", "0 0", "[0 0][0 0]"},
		{"0 1 1 0 0 0", "1/5 -1/10", "0", "[3/20 -1/20]"},
		{"0 1 1 0 0 0", "1/5 -1/10", "-1/50 1/100", "[7/50 -3/50][23/200 -1/40]"},
		{"0 0 0 1/10 1/2 0", "0 1/5", "0", "[1/20 1/4]"},
		{"1/20 0 0 1/10 0 0", "0 1/5", "0 0", "[3/80 17/80][3/32 41/160]"},
	} {
		states, e := gait.Walk(third("1/50"), law(c.law), state(c.state), nums(c.pushes))
		expectOK(t, "Walk from "+c.state+" with "+c.pushes, statesText(states), e, c.want)
	}
}

// P8.8: walks that look random, step by step.
func TestRandomWalks(t *testing.T) {
	s := source(880)
	walks, ends := 0, map[api.Errno]int{}
	for range 300 {
		r := s.lively()
		set, _ := gait.Allowed(r.p, r.l)
		from, pushes := s.nearby(set), s.pushes(r.p, s.below(5))
		var want []balance.State
		e, now := api.OK, from
		for _, push := range pushes {
			pressure, length, _, _ := stepped(r, pushed(now, push))
			now, e = balance.Next(r.p, now, balance.Move{Push: push, Pressure: pressure, Step: length})
			if e != api.OK {
				want = nil
				break
			}
			want = append(want, now)
		}
		ends[e]++
		got, f := gait.Walk(r.p, r.l, from, pushes)
		name := "Walk of " + r.text() + " from " + stateText(from)
		expectError(t, name, f, e)
		expect(t, name, statesText(got), statesText(want))
		if len(got) > 1 {
			walks++
		}
	}
	if walks < 50 || ends[api.ErrRange] < 20 || ends[api.ErrState] < 5 {
		t.Error("long walks, and ends:", walks, ends)
	}
}
