package balance_test

import (
	"math"
	"strconv"
	"testing"

	"amble/api"
	"amble/balance"
	"amble/exact"
	"amble/hull"
)

// P7.7: Choices, row by row.
func TestChoices(t *testing.T) {
	moves := "2;[-1 0]1/10;[1 0]1/10;[0 -1]0;[0 1]1/2;"
	choices, e := balance.Choices(third("0"), 1, state("1/5 2/5"))
	// After the swing: X is 11/20 - 1/4 p, V is 13/20 - 3/4 p.
	expectOK(t, "Choices", polyText(choices), e, moves+"[1/4 0]21/20;[-1/4 0]-1/20;"+
		"[1 1]13/10;[1/4 1]21/20;[-1/4 -1]-1/20;[-1 -1]-11/10;")
	// After the swing: X is 7/10 - 1/4 p, V is 1/2 - 3/4 p.
	choices, e = balance.Choices(third("0"), 1, state("1/2 1/10"))
	expectOK(t, "Choices at the end of the bounds", polyText(choices), e, moves+"[1/4 0]6/5;[-1/4 0]-1/5;"+
		"[1 1]13/10;[1/4 1]6/5;[-1/4 -1]-1/5;[-1 -1]-11/10;")
	// After the swing: X is 3/5 - 1/4 p, V is 1/5 - 3/4 p.
	choices, e = balance.Choices(third("0"), 1, state("3/5 -1/5"))
	expectOK(t, "Choices out of bounds", polyText(choices), e, moves+"[1/4 0]11/10;[-1/4 0]-1/10;"+
		"[1 1]9/10;[1/4 1]11/10;[-1/4 -1]-1/10;[-1 -1]-7/10;[0 0]-1;")
	choices, e = balance.Choices(third("1"), 2, state("0 0"))
	expectOK(t, "Choices with nothing to reach", polyText(choices), e, moves+"[1/4 0]1/2;[-1/4 0]1/2;[0 0]-1;")
}

// choices are the rows of Choices as the chapter writes them.
func choices(p balance.Pendulum, k int, s balance.State) hull.Poly {
	one, square := num("1"), p.Grow.Mul(p.Grow)
	c := over(one.Add(square), one.Sub(square))
	d := over(p.Grow.Add(p.Grow), one.Sub(square))
	x, v := c.Mul(s.X).Add(d.Mul(s.V)), d.Mul(s.X).Add(c.Mul(s.V)) // with the pressure 0
	l := hull.Poly{N: 2}
	say := func(pressure, length, b exact.Q) {
		l.Rows = append(l.Rows, hull.Row{A: []exact.Q{pressure, length}, B: b})
	}
	say(one.Neg(), exact.Q{}, p.Heel.Neg())
	say(one, exact.Q{}, p.Toe)
	say(exact.Q{}, one.Neg(), p.Short.Neg())
	say(exact.Q{}, one, p.Long)
	say(c.Sub(one), exact.Q{}, x.Sub(p.Near))
	say(one.Sub(c), exact.Q{}, p.Far.Sub(x))
	goal, _ := balance.Capture(p, k-1)
	for _, r := range goal.Rows {
		a, b := r.A[0], r.A[1]
		say(a.Mul(one.Sub(c)).Sub(b.Mul(d)), a.Neg(), r.B.Sub(a.Mul(x)).Sub(b.Mul(v)))
	}
	if !isIn(p.Near, s.X, p.Far) {
		say(exact.Q{}, exact.Q{}, one.Neg())
	}
	return l
}

// isChoice reports whether a pressure and a length are a choice, by trying
// them.
func isChoice(p balance.Pendulum, k int, s balance.State, pressure, length exact.Q) bool {
	goal, _ := balance.Capture(p, k-1)
	end, e := balance.Next(p, s, balance.Move{Pressure: pressure, Step: length})
	return e == api.OK && hull.Has(goal, numbers(end))
}

// P7.7: for any state, Choices has the rows of the chapter, and is the set of
// the pairs that lead into the capture set of k - 1.
func TestAnyChoices(t *testing.T) {
	s := source(740)
	right, wrong := 0, 0
	for range 150 {
		k := 1 + s.below(api.MaxSteps)
		p := s.pendulum()
		from := s.nearby(p)
		if ready, _ := balance.Ready(p, k); !isVoid(ready) && s.below(3) > 0 {
			from = s.inside(ready)
		}
		name := strconv.Itoa(k) + " of " + pendulumText(p) + stateText(from)
		got, e := balance.Choices(p, k, from)
		expectOK(t, "Choices for "+name, polyText(got), e, polyText(choices(p, k, from)))
		tries := [][]exact.Q{{s.between(p.Heel, p.Toe), s.between(p.Short, p.Long)}, {s.number(), s.number()}}
		corners, _, _ := hull.Corners(got)
		for _, pair := range append(tries, corners...) {
			want := isChoice(p, k, from, pair[0], pair[1])
			expectBool(t, numsText(pair)+" in Choices for "+name, hull.Has(got, pair), want)
			if want {
				right++
			} else {
				wrong++
			}
		}
	}
	if right < 60 || wrong < 100 {
		t.Error("pairs that are choices, and others:", right, wrong)
	}
}

// P7.7: Choose and Refuse, of states inside the ready set, at its ends, and
// outside.
func TestChoose(t *testing.T) {
	for _, c := range []struct {
		name, state string
		k           int
		want        string
		e           api.Errno
	}{
		{"the chapter's state", "0 3/10", 1, "0 1/2", api.OK},
		{"a greater velocity", "0 2/5", 1, "0 0", api.ErrVoid},
		{"the same with two steps", "0 2/5", 2, "-1/20 1/2", api.OK},
		{"the end of the ready set", "0 7/20", 1, "1/10 1/2", api.OK},
		{"just beyond it", "0 3501/10000", 1, "0 0", api.ErrVoid},
		{"the other end", "0 -1/10", 1, "-1/10 0", api.OK},
		{"just beyond that", "0 -1001/10000", 1, "0 0", api.ErrVoid},
		{"at rest", "0 0", 1, "-1/10 0", api.OK},
		{"the end of the bounds", "1/2 -1/2", 1, "-1/10 0", api.OK},
		{"out of bounds", "501/1000 -501/1000", 1, "0 0", api.ErrVoid},
		{"out of bounds on the other side", "-501/1000 501/1000", 1, "0 0", api.ErrVoid},
	} {
		pressure, step, e := balance.Choose(third("0"), c.k, state(c.state))
		expectError(t, "Choose, "+c.name, e, c.e)
		expect(t, "Choose, "+c.name, pairText(pressure, step), c.want)
		weights, e := balance.Refuse(third("0"), c.k, state(c.state))
		if c.e == api.OK {
			expectError(t, "Refuse, "+c.name, e, api.ErrNone)
			expect(t, "Refuse, "+c.name, numsText(weights), "[]")
			continue
		}
		expectError(t, "Refuse, "+c.name, e, api.OK)
		expectBool(t, "Refuse, "+c.name+", shows it", isVoidBy(choices(third("0"), c.k, state(c.state)), weights), true)
	}
}

// P7.7: for any state, there is a choice exactly if it is in the ready set;
// then Choose gives the least corner of the choices, and otherwise Refuse
// shows that there are none.
func TestAnyChoose(t *testing.T) {
	s := source(741)
	chosen, refused := 0, 0
	for range 150 {
		k := 1 + s.below(api.MaxSteps)
		p := s.pendulum()
		from := s.nearby(p)
		ready, _ := balance.Ready(p, k)
		if !isVoid(ready) && s.below(3) > 0 {
			from = s.inside(ready)
		}
		name := strconv.Itoa(k) + " of " + pendulumText(p) + stateText(from)
		pressure, step, e := balance.Choose(p, k, from)
		weights, f := balance.Refuse(p, k, from)
		if hull.Has(ready, numbers(from)) {
			chosen++
			corners, _, _ := hull.Corners(choices(p, k, from))
			expectOK(t, "Choose for "+name, numsText([]exact.Q{pressure, step}), e, numsText(corners[0]))
			expectBool(t, "Choose for "+name+" gives a choice", isChoice(p, k, from, pressure, step), true)
			expectError(t, "Refuse for "+name, f, api.ErrNone)
			continue
		}
		refused++
		expectError(t, "Choose for "+name, e, api.ErrVoid)
		expectError(t, "Refuse for "+name, f, api.OK)
		expectBool(t, "Refuse for "+name+" shows it", isVoidBy(choices(p, k, from), weights), true)
	}
	if chosen < 50 || refused < 40 {
		t.Error("states with a choice, and without one:", chosen, refused)
	}
}

// P7.8: Pushes, whatever Push is.
func TestPushes(t *testing.T) {
	for _, c := range []struct {
		name  string
		p     balance.Pendulum
		k     int
		state string
		want  string
		e     api.Errno
	}{
		{"one step", third("0"), 1, "0 0", "-1/10 7/20", api.OK},
		{"one step, however great Push is", third("5"), 1, "0 0", "-1/10 7/20", api.OK},
		{"a state that moves", third("0"), 1, "0 1", "-11/10 -13/20", api.OK},
		{"a state that moves back", third("0"), 1, "1/5 -10", "97/10 203/20", api.OK},
		{"a corner of the ready set", third("0"), 1, "-19/40 0", "3/8 33/40", api.OK},
		{"two steps", third("1/20"), 2, "0 0", "-3/40 9/20", api.OK},
		{"the end of the bounds", third("0"), 1, "1/2 0", "-3/5 -3/20", api.OK},
		{"out of bounds", third("0"), 1, "501/1000 0", "0 0", api.ErrVoid},
		{"out of bounds behind", third("0"), 1, "-501/1000 0", "0 0", api.ErrVoid},
		{"nothing to reach", third("1"), 2, "0 0", "0 0", api.ErrVoid},
		{"one push", pendulum("1/2 0 0 0 0 0 0 0"), 3, "0 7", "-7 -7", api.OK},
	} {
		low, high, e := balance.Pushes(c.p, c.k, state(c.state))
		expectError(t, "Pushes, "+c.name, e, c.e)
		expect(t, "Pushes, "+c.name, pairText(low, high), c.want)
	}
}

// P7.8: for any state, Pushes gives the ends of the ready set above and below
// it.
func TestAnyPushes(t *testing.T) {
	s := source(742)
	found, none := 0, 0
	for range 200 {
		k := 1 + s.below(api.MaxSteps)
		p := s.pendulum()
		from := s.nearby(p)
		name := strconv.Itoa(k) + " of " + pendulumText(p) + stateText(from)
		low, high, e := balance.Pushes(p, k, from)
		ready, _ := balance.Ready(p, k)
		line := hull.Poly{N: 2, Rows: []hull.Row{{A: nums("1 0"), B: from.X}, {A: nums("-1 0"), B: from.X.Neg()}}}
		line, _ = hull.Meet(line, ready)
		least, most, below, above, f := hull.Bounds(nums("0 1"), line)
		expectError(t, "Pushes for "+name, e, f)
		if f != api.OK {
			none++
			expect(t, "Pushes for "+name, pairText(low, high), "0 0")
			continue
		}
		found++
		expectBool(t, "the ready set is bounded in V", below && above, true)
		expect(t, "Pushes for "+name, pairText(low, high), pairText(least.Sub(from.V), most.Sub(from.V)))
		for _, c := range []struct {
			push exact.Q
			want api.Errno
		}{{low, api.OK}, {high, api.OK}, {low.Sub(num("1/1000000")), api.ErrVoid}, {high.Add(num("1/1000000")), api.ErrVoid}} {
			_, _, e := balance.Choose(p, k, pushed(from, c.push))
			expectError(t, "Choose with the push "+c.push.Text()+" for "+name, e, c.want)
		}
	}
	if found < 80 || none < 20 {
		t.Error("states with pushes, and without:", found, none)
	}
}

// P7.9: the moves of Stop, and the state behind them.
func TestStop(t *testing.T) {
	for _, c := range []struct {
		name          string
		k             int
		state, pushes string
		want          string
		e             api.Errno
	}{
		{"no steps", 0, "1/20 1/40", "", "[1/20 1/40]", api.OK},
		{"no steps, from the end of rest", 0, "1/2 -3/5", "", "[1/2 -3/5]", api.OK},
		{"no steps, not at rest", 0, "0 1/5", "", "[0 0]", api.ErrVoid},
		{"no steps, out of bounds", 0, "3/5 -3/5", "", "[0 0]", api.ErrVoid},
		{"one step", 1, "0 3/10", "0", "[0 0 1/2][-11/40 3/8]", api.OK},
		{"one step, pushed", 1, "0 3/10", "1/20", "[1/20 1/10 1/2][-21/80 29/80]", api.OK},
		{"one step, pushed back", 1, "0 3/10", "-1/20", "[-1/20 -1/10 1/2][-23/80 31/80]", api.OK},
		{"one step, too fast", 1, "0 301/1000", "0", "[0 0]", api.ErrVoid},
		{"one step, from out of bounds", 1, "1 -1", "0", "[0 0]", api.ErrVoid},
		{"two steps", 2, "0 2/5", "1/20 -1/20", "[1/20 1/10 1/2][-1/20 -1/10 1/2][-61/160 77/160]", api.OK},
		{"two steps, too fast", 2, "0 401/1000", "0 0", "[0 0]", api.ErrVoid},
		{"a push too few", 2, "0 0", "0", "[0 0]", api.ErrArg},
		{"a push too many", 2, "0 0", "0 0 0", "[0 0]", api.ErrArg},
		{"no pushes", 1, "0 0", "", "[0 0]", api.ErrArg},
		{"a push with no steps", 0, "0 0", "0", "[0 0]", api.ErrArg},
		{"a push too great", 2, "0 0", "0 51/1000", "[0 0]", api.ErrRange},
		{"a push back too great", 2, "0 0", "-51/1000 0", "[0 0]", api.ErrRange},
		{"a push too great, too many, out of bounds", 1, "9 9", "9 9", "[0 0]", api.ErrArg},
		{"a push too great, out of bounds", 1, "9 9", "9", "[0 0]", api.ErrRange},
	} {
		moves, last, e := balance.Stop(third("1/20"), c.k, state(c.state), nums(c.pushes))
		expectError(t, "Stop, "+c.name, e, c.e)
		expect(t, "Stop, "+c.name, movesText(moves)+stateText(last), c.want)
	}
	_, _, e := balance.Stop(third("1/20"), math.MaxInt, state("9 9"), nums("9 9"))
	expectError(t, "Stop with a wrong number of steps, and all else", e, api.ErrRange)
	_, _, e = balance.Stop(balance.Pendulum{}, -1, state("9 9"), nums("9 9"))
	expectError(t, "Stop with a wrong pendulum, and all else", e, api.ErrArg)
}

// P7.9: for any state of a capture set, Stop does what Choose says, for k, then
// for k - 1, and so on.
func TestAnyStop(t *testing.T) {
	s := source(743)
	for range 100 {
		k := s.below(api.MaxSteps + 1)
		p := s.handy(k)
		set, _ := balance.Capture(p, k)
		from, pushes := s.inside(set), s.pushes(p, k)
		name := strconv.Itoa(k) + " of " + pendulumText(p) + stateText(from) + numsText(pushes)
		var want []balance.Move
		now := from
		for i, push := range pushes {
			pressure, step, e := balance.Choose(p, k-i, pushed(now, push))
			expectError(t, "Choose for "+name, e, api.OK)
			m := balance.Move{Push: push, Pressure: pressure, Step: step}
			want = append(want, m)
			now, e = next(p, now, m)
			expectError(t, "Next for "+name, e, api.OK)
		}
		moves, last, e := balance.Stop(p, k, from, pushes)
		expectOK(t, "Stop for "+name, movesText(moves)+stateText(last), e, movesText(want)+stateText(now))
	}
}
