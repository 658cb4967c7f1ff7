package gait_test

import (
	"math"
	"slices"
	"strconv"
	"testing"

	"amble/api"
	"amble/balance"
	"amble/exact"
	"amble/gait"
	"amble/hull"
)

// band returns the canonical description of the states with X from -1/2 to 1/2
// and X + V from -width to width.
func band(width string) string {
	return polyText(poly("-1 -1 " + width + ", -1 0 1/2, 1 0 1/2, 1 1 " + width))
}

// P8.9: sets of allowed states that are written out.
func TestAllowed(t *testing.T) {
	for _, c := range []struct{ name, push, law, want string }{
		{"the pressure X + V", "0", "0 1 1 0 0 0", band("1/10")},
		{"the pressure X + V, with pushes", "1/50", "0 1 1 0 0 0", band("2/25")},
		{"the pressure X + V, with the greatest pushes", "1/10", "0 1 1 0 0 0", polyText(poly("1 1 0, -1 -1 0, 0 -1 1/2, 0 1 1/2"))},
		{"the pressure X + V, with greater pushes", "101/1000", "0 1 1 0 0 0", polyText(poly("0 0 -1"))},
		{"a pressure that is too great", "0", "101/1000 0 0 0 0 0", polyText(poly("0 0 -1"))},
		{"a pressure that is just not too great", "0", "1/10 1 1 0 0 0", polyText(poly("-1 -1 1/5, -1 0 1/2, 1 0 1/2, 1 1 0"))},
		{"a length that is too small", "0", "0 1 1 -1/1000 0 0", polyText(poly("0 0 -1"))},
		{"the greatest length", "0", "0 1 1 1/2 0 0", polyText(poly("-2 -1 0, -1 -1 1/10, 1 0 1/2, 1 1 1/10"))},
		{"no pressure", "0", "0 0 0 0 0 0", polyText(poly("-5 -3 2, -1 0 1/2, 1 0 1/2, 5 3 2"))},
		{"no pressure, with pushes", "1/3", "0 0 0 0 0 0", polyText(poly("-5 -3 1, -1 0 1/2, 1 0 1/2, 5 3 1"))},
		{"the length X", "0", "0 0 0 0 1 0", polyText(poly("-1 -3 2, -1 0 0, 1 0 1/2, 5 3 2"))},
	} {
		set, e := gait.Allowed(third(c.push), law(c.law))
		expectOK(t, "Allowed: "+c.name, polyText(set), e, c.want)
	}
}

// readings returns what is bounded in the step from a state after a push, and
// the bounds.
func readings(r rhythm, s balance.State) (values, low, high []exact.Q) {
	pressure, length, swung, next := stepped(r, s)
	p := r.p
	return []exact.Q{s.X, pressure, length, swung.X, next.X},
		[]exact.Q{p.Near, p.Heel, p.Short, p.Near, p.Near}, []exact.Q{p.Far, p.Toe, p.Long, p.Far, p.Far}
}

// allowed returns the rows of the allowed states of a rhythm: how what is bounded
// changes with X and V is found by trying.
func allowed(r rhythm) hull.Poly {
	set := hull.Poly{N: 2}
	for _, push := range []exact.Q{r.p.Push.Neg(), r.p.Push} {
		origin, low, high := readings(r, balance.State{V: push})
		byX, _, _ := readings(r, balance.State{X: num("1"), V: push})
		byV, _, _ := readings(r, balance.State{V: push.Add(num("1"))})
		for i := range origin {
			x, v := byX[i].Sub(origin[i]), byV[i].Sub(origin[i])
			set.Rows = append(set.Rows, hull.Row{A: []exact.Q{x, v}, B: high[i].Sub(origin[i])})
			set.Rows = append(set.Rows, hull.Row{A: []exact.Q{x.Neg(), v.Neg()}, B: origin[i].Sub(low[i])})
		}
	}
	return set
}

// isGood reports whether the step of a law from a state, with a push, is good.
func isGood(r rhythm, s balance.State, push exact.Q) bool {
	pressure, length, _, _ := stepped(r, pushed(s, push))
	_, e := balance.Next(r.p, s, balance.Move{Push: push, Pressure: pressure, Step: length})
	return e == api.OK
}

// isAllowed reports whether a state is allowed.
func isAllowed(r rhythm, s balance.State) bool {
	return isGood(r, s, r.p.Push) && isGood(r, s, r.p.Push.Neg())
}

// P8.9: sets of allowed states that look random.
func TestRandomAllowed(t *testing.T) {
	s := source(890)
	inside, outside, void := 0, 0, 0
	for range 300 {
		r := rhythm{s.pendulum(), s.law()}
		if s.chance(2) {
			r = s.rhythm()
		}
		set, e := gait.Allowed(r.p, r.l)
		want, _ := hull.Canon(allowed(r))
		expectOK(t, "Allowed of "+r.text(), polyText(set), e, polyText(want))
		if isVoid(set) {
			void++
			continue
		}
		for range 10 {
			at := s.nearby(set)
			is := hull.Has(set, numbers(at))
			expectBool(t, "the state "+stateText(at)+" of "+r.text(), is, isAllowed(r, at))
			if is {
				inside++
			} else {
				outside++
			}
		}
	}
	if inside < 300 || outside < 300 || void < 30 {
		t.Error("states inside and outside, void sets:", inside, outside, void)
	}
}

// P8.9: basins that are written out. X + V stays as it is under the law, and each
// push adds to it.
func TestBasin(t *testing.T) {
	calm := law("0 1 1 0 0 0")
	line := polyText(poly("1 1 0, -1 -1 0, 0 -1 1/2, 0 1 1/2"))
	for _, c := range []struct {
		push   string
		rounds int
		want   string
		closed bool
		e      api.Errno
	}{
		{"0", 0, band("1/10"), false, api.OK},
		{"0", 1, band("1/10"), true, api.OK},
		{"0", 2, band("1/10"), true, api.OK},
		{"0", 8, band("1/10"), true, api.OK},
		{"1/50", 0, band("2/25"), false, api.OK},
		{"1/50", 1, band("3/50"), false, api.OK},
		{"1/50", 2, band("1/25"), false, api.OK},
		{"1/50", 3, band("1/50"), false, api.OK},
		{"1/50", 4, line, false, api.OK},
		{"1/50", 5, "", false, api.ErrVoid},
		{"1/50", 8, "", false, api.ErrVoid},
		{"1/90", 8, line, false, api.OK},
		{"1/100", 8, band("1/100"), false, api.OK},
		{"1/10", 0, line, false, api.OK},
		{"1/10", 1, "", false, api.ErrVoid},
		{"101/1000", 0, "", false, api.ErrVoid},
		{"0", -1, "", false, api.ErrRange},
		{"0", 9, "", false, api.ErrRange},
		{"0", math.MinInt, "", false, api.ErrRange},
		{"0", math.MaxInt, "", false, api.ErrRange},
		{"0", 1<<32 + 1, "", false, api.ErrRange},
		{"101/1000", 9, "", false, api.ErrRange},
		{"-1", 1, "", false, api.ErrArg},
		{"-1", 9, "", false, api.ErrArg},
	} {
		name := "Basin with the push " + c.push + ", " + strconv.Itoa(c.rounds)
		set, closed, e := gait.Basin(third(c.push), calm, c.rounds)
		expectError(t, name, e, c.e)
		if e == api.OK {
			expect(t, name, polyText(set), c.want)
			expectBool(t, name+": closed", closed, c.closed)
		}
	}
}

// stays reports whether a state is allowed, and so are those to which so many
// steps of the law lead, whatever pushes come.
func stays(r rhythm, s balance.State, rounds int) bool {
	if !isAllowed(r, s) {
		return false
	}
	for _, push := range []exact.Q{r.p.Push.Neg(), r.p.Push} {
		_, _, _, next := stepped(r, pushed(s, push))
		if rounds > 0 && !stays(r, next, rounds-1) {
			return false
		}
	}
	return true
}

// shifted returns a set moved by a state.
func shifted(set hull.Poly, by balance.State) hull.Poly {
	moved, _ := hull.Image(set, exact.Mat{nums("1 0"), nums("0 1")}, numbers(by))
	return moved
}

// round returns what is left of a set after a round, if the return map can be
// undone: the states behind which the images of the set by what undoes it are,
// for both pushes.
func round(r rhythm, set hull.Poly) (hull.Poly, bool) {
	m, v, _ := gait.Return(r.p, r.l)
	undo, e := exact.Inverse(m)
	if e != api.OK {
		return hull.Poly{}, false
	}
	from, _ := exact.Apply(undo, []exact.Q{v[0].Neg(), v[1].Neg()})
	behind, _ := hull.Image(set, undo, from) // after the push
	for _, push := range []exact.Q{r.p.Push.Neg(), r.p.Push} {
		set, _ = hull.Meet(set, shifted(behind, balance.State{V: push}))
		set, _ = hull.Canon(set)
	}
	return set, true
}

// P8.9: basins that look random, round by round.
func TestRandomBasins(t *testing.T) {
	s := source(891)
	inside, outside, closings, voids, undone := 0, 0, 0, 0, 0
	for range 100 {
		r := s.lively()
		want, _ := gait.Allowed(r.p, r.l)
		wantClosed := false
		for rounds := range api.MaxRounds + 1 {
			if after, ok := round(r, want); ok && rounds > 0 && !wantClosed {
				wantClosed = polyText(after) == polyText(want)
				want = after
				undone++
			} else if rounds > 0 && !wantClosed {
				break
			}
			name := "Basin of " + r.text() + " after " + strconv.Itoa(rounds)
			set, closed, e := gait.Basin(r.p, r.l, rounds)
			if isVoid(want) {
				expectError(t, name, e, api.ErrVoid)
				voids++
				break
			}
			expectOK(t, name, polyText(set), e, polyText(want))
			expectBool(t, name+": closed", closed, wantClosed)
			if closed {
				closings++
			}
			if len(set.Rows) > 10*(rounds+1) {
				t.Error(name, "has", len(set.Rows), "rows") // so there never are MaxRows
			}
			at := s.nearby(set)
			is := hull.Has(set, numbers(at))
			expectBool(t, name+" has "+stateText(at), is, stays(r, at, rounds))
			if is {
				inside++
			} else {
				outside++
			}
		}
	}
	if inside < 100 || outside < 50 || closings < 100 || voids < 5 || undone < 100 {
		t.Error("states inside and outside, closed and void sets, rounds:", inside, outside, closings, voids, undone)
	}
}

// P8.9: basins of return maps that cannot be undone.
func TestFlatBasins(t *testing.T) {
	s := source(892)
	closings, opens := 0, 0
	for range 60 {
		r := s.lively()
		m, v, _ := gait.Return(r.p, r.l)
		k := s.one("0 1 -1/2 2")
		m[1] = []exact.Q{m[0][0].Mul(k), m[0][1].Mul(k)}
		r.l = lawFor(r.p, m, v)
		rounds := s.below(5)
		set, closed, e := gait.Basin(r.p, r.l, rounds)
		if e != api.OK {
			expectError(t, "Basin of "+r.text(), e, api.ErrVoid)
			continue
		}
		before := "" // what was there a round before
		if rounds > 0 {
			old, _, _ := gait.Basin(r.p, r.l, rounds-1)
			before = polyText(old)
		}
		expectBool(t, "Basin of "+r.text()+": closed", closed, polyText(set) == before)
		for range 6 {
			at := s.nearby(set)
			expectBool(t, "Basin of "+r.text()+" has "+stateText(at), hull.Has(set, numbers(at)), stays(r, at, rounds))
		}
		if closed {
			closings++
		} else {
			opens++
		}
	}
	if closings < 10 || opens < 10 {
		t.Error("closed basins, and others:", closings, opens)
	}
}

// isBasin reports whether a set is a basin, by its corners: what holds for them
// holds for all between.
func isBasin(r rhythm, set hull.Poly) bool {
	points, rays, e := hull.Corners(set)
	if set.N != 2 || e != api.OK || len(points) == 0 || len(rays) > 0 {
		return false
	}
	for _, at := range points {
		s := balance.State{X: at[0], V: at[1]}
		for _, push := range []exact.Q{r.p.Push.Neg(), r.p.Push} {
			_, _, _, next := stepped(r, pushed(s, push))
			if !isGood(r, s, push) || !hull.Has(set, numbers(next)) {
				return false
			}
		}
	}
	return true
}

// square is a set with the corners (-1, -1) and (1, 1), times k.
func square(k string) hull.Poly {
	return poly("-1 0 " + k + ", 1 0 " + k + ", 0 -1 " + k + ", 0 1 " + k)
}

// P8.9: sets that are basins, and such that are not.
func TestProveBasin(t *testing.T) {
	slow := pendulum("1/3 -1 1 -2 2 -1 1 1/10")
	half, _ := matrix("1/2 0 0 1/2 0 0")
	halving := lawFor(slow, half, nums("0 0"))
	calm := law("0 1 1 0 0 0")
	wrongRow := square("1/5")
	wrongRow.Rows = append(wrongRow.Rows, hull.Row{A: nums("1 0 0"), B: num("9")})
	noRow := square("1/5")
	noRow.Rows = append(noRow.Rows, hull.Row{})
	full := square("1/5")
	for len(full.Rows) < api.MaxRows {
		full.Rows = append(full.Rows, full.Rows[len(full.Rows)%3])
	}
	tooFull := hull.Poly{N: 2, Rows: append(slices.Clone(full.Rows), full.Rows[0])}
	for _, c := range []struct {
		name string
		p    balance.Pendulum
		l    gait.Law
		set  hull.Poly
		want bool
	}{
		{"a square that halving keeps", slow, halving, square("1/5"), true},
		{"one that is just great enough for pushes", slow, halving, square("1/10"), true},
		{"one that is not", slow, halving, square("99/1000"), false},
		{"many rows", slow, halving, full, true},
		{"more rows than can be", slow, halving, tooFull, false},
		{"a row with a number too many", slow, halving, wrongRow, false},
		{"a row without numbers", slow, halving, noRow, false},
		{"a square with states that are not allowed", slow, halving, square("2"), false},
		{"a void set", slow, halving, poly("1 0 0, -1 0 -1"), false},
		{"a void set with one row", slow, halving, poly("0 0 -1"), false},
		{"all states", slow, halving, hull.Poly{N: 2}, false},
		{"a half-plane", slow, halving, poly("1 0 1/5"), false},
		{"a quarter", slow, halving, poly("-1 0 1/5, 0 -1 1/5"), false},
		{"a strip", slow, halving, poly("-1 0 1/5, 1 0 1/5"), false},
		{"a ray", slow, halving, poly("0 1 0, 0 -1 0, -1 0 0"), false},
		{"a wrong pendulum", third("-1"), calm, square("1/50"), false},
		{"a set of the dimension 0", slow, halving, hull.Poly{}, false},
		{"a set of the dimension 1", slow, halving, hull.Poly{N: 1, Rows: []hull.Row{{A: nums("1"), B: num("1/5")}, {A: nums("-1"), B: num("1/5")}}}, false},
		{"a set of the dimension 3", slow, halving, hull.Poly{N: 3, Rows: []hull.Row{{A: nums("1 0 0"), B: num("1/5")}}}, false},
		{"a dimension below 0", slow, halving, hull.Poly{N: -1}, false},
		{"a dimension that is too great", slow, halving, hull.Poly{N: 13}, false},
		{"a fixed state", third("0"), calm, poly("1 0 1/20, -1 0 -1/20, 0 1 0, 0 -1 0"), true},
		{"a state that is not fixed", third("0"), calm, poly("1 0 1/20, -1 0 -1/20, 0 1 1/50, 0 -1 -1/50"), false},
		{"a fixed state, with pushes", third("1/1000"), calm, poly("1 0 1/20, -1 0 -1/20, 0 1 0, 0 -1 0"), false},
		{"a fixed state at the edge of what is allowed", third("0"), calm, poly("1 0 1/10, -1 0 -1/10, 0 1 0, 0 -1 0"), true},
		{"a fixed state that is not allowed", third("0"), calm, poly("1 0 11/100, -1 0 -11/100, 0 1 0, 0 -1 0"), false},
		{"a line of states", third("0"), calm, poly("1 1 0, -1 -1 0, 1 0 1/2, -1 0 1/2"), true},
		{"a line of states that are not all allowed", third("0"), calm, poly("1 1 0, -1 -1 0, 1 0 51/100, -1 0 1/2"), false},
		{"half of a line", third("0"), calm, poly("1 1 0, -1 -1 0, 1 0 1/2, -1 0 0"), true},
		{"a part of a line without its end", third("0"), calm, poly("1 1 0, -1 -1 0, 1 0 1/2, -1 0 -1/100"), false},
		{"all allowed states", third("0"), calm, poly("-1 -1 1/10, -1 0 1/2, 1 0 1/2, 1 1 1/10"), true},
		{"all allowed states, with pushes", third("1/50"), calm, poly("-1 -1 2/25, -1 0 1/2, 1 0 1/2, 1 1 2/25"), false},
	} {
		expectBool(t, "ProveBasin: "+c.name, gait.ProveBasin(c.p, c.l, c.set), c.want)
		isValid := hull.Check(c.set) == api.OK && balance.CheckPendulum(c.p) == api.OK
		expectBool(t, "what is a basin: "+c.name, isValid && isBasin(rhythm{c.p, c.l}, c.set), c.want)
	}
}

// P8.9: basins that are altered, and other sets that look random.
func TestRandomProveBasin(t *testing.T) {
	s := source(893)
	right, wrong := 0, 0
	for range 60 {
		r, set := s.steady()
		for range 6 {
			other := hull.Poly{N: 2, Rows: slices.Clone(set.Rows)}
			switch s.below(5) {
			case 0:
				i := s.below(len(other.Rows))
				other.Rows[i].B = other.Rows[i].B.Add(s.one("1/1000000 -1/1000000 -1/10 -1/3"))
			case 1:
				other.Rows = without(other.Rows, s.below(len(other.Rows)))
			case 2:
				fixed, e := gait.Fixed(r.p, r.l)
				if e == api.OK {
					k := s.one("1 1/2 3/4 9/10 1/10")
					rest := num("1").Sub(k)
					other, _ = hull.Image(set, exact.Mat{{k, {}}, {{}, k}}, []exact.Q{fixed.X.Mul(rest), fixed.V.Mul(rest)})
				}
			case 3:
				other = shifted(set, balance.State{X: s.one("1/1000000 -1/20 0"), V: s.one("0 1/1000 -1/20")})
			case 4:
				other, _ = gait.Allowed(r.p, r.l)
			}
			is := isBasin(r, other)
			expectBool(t, "ProveBasin for "+r.text()+" of "+polyText(other), gait.ProveBasin(r.p, r.l, other), is)
			if is {
				right++
			} else {
				wrong++
			}
		}
	}
	if right < 60 || wrong < 60 {
		t.Error("basins, and what is none:", right, wrong)
	}
}

// P8.9: sets with as many corners as can be.
func TestRoundBasins(t *testing.T) {
	p := pendulum("1/3 -1 1 -2 2 -1 1 1/10")
	m, v := matrix("0 -1/2 1/2 0 0 0")
	turning := lawFor(p, m, v)
	for _, c := range []struct {
		radius string
		want   bool
	}{{"1/8", true}, {"1/20", false}, {"4", false}} {
		set := hull.Poly{N: 2}
		for i := range api.MaxRows {
			at, _ := exact.Of(int64(4*(i/2)-api.MaxRows+2), api.MaxRows)
			side := exact.Turn(at)
			if i%2 == 1 {
				side.C = side.C.Neg()
			}
			set.Rows = append(set.Rows, hull.Row{A: []exact.Q{side.C, side.S}, B: num(c.radius)})
		}
		expectBool(t, "ProveBasin of a round set of "+c.radius, gait.ProveBasin(p, turning, set), c.want)
	}
}
