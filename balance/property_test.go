package balance_test

import (
	"strconv"
	"testing"

	"amble/api"
	"amble/balance"
	"amble/exact"
	"amble/hull"
)

// The properties of the chapter, for stances and pendulums that look random.

// expectHeld checks whether a stance holds its weight at a place, by forces or
// by a proof.
func expectHeld(t *testing.T, x stance, place exact.Q, want bool) {
	t.Helper()
	name := x.text() + " at " + place.Text()
	forces, e := balance.Forces(x.l, x.weight, place)
	weights, f := balance.Falls(x.l, x.weight, place)
	if want {
		expectError(t, "Forces of "+name, e, api.OK)
		expectError(t, "Falls of "+name, f, api.ErrNone)
		expectBool(t, "Balanced by Forces of "+name, balance.Balanced(x.l, x.weight, place, forces), true)
		return
	}
	expectError(t, "Forces of "+name, e, api.ErrVoid)
	expectError(t, "Falls of "+name, f, api.OK)
	p, _ := balance.System(x.l, x.weight, place)
	expectBool(t, "Falls of "+name+" shows it", isVoidBy(p, weights), true)
}

// P7.10: between low and high a stance holds, outside it falls; where there is
// no end, it holds however far away.
func TestHolding(t *testing.T) {
	s := source(750)
	ends, open := 0, 0
	for range 100 {
		x := s.sure(api.MaxContacts)
		low, high, below, above, e := balance.Support(x.l, x.weight)
		expectError(t, "Support of "+x.text(), e, api.OK)
		far, near := num("1000000"), num("1/1000000")
		from, to := low, high
		if !below {
			from = to.Sub(far)
		}
		if !above {
			to = from.Add(far)
		}
		for range 3 {
			expectHeld(t, x, s.between(from, to), true)
		}
		for _, end := range []struct {
			place, beyond exact.Q
			is            bool
		}{{from, from.Sub(near), below}, {to, to.Add(near), above}} {
			expectHeld(t, x, end.place, true)
			expectHeld(t, x, end.beyond, !end.is)
			if end.is {
				ends++
			} else {
				open++
			}
		}
	}
	if ends < 40 || open < 40 {
		t.Error("supports with an end, and without:", ends, open)
	}
}

// easier returns a stance with one more contact, more friction, or greater load
// limits.
func (s *source) easier(x stance) stance {
	l := append([]balance.Contact{}, x.l...)
	i := s.below(len(l))
	switch s.below(4) {
	case 0:
		l = append(l, s.contact())
	case 1:
		l = append([]balance.Contact{s.contact()}, l...)
	case 2:
		l[i].Friction = l[i].Friction.Add(s.positive())
	case 3:
		for i := range l {
			if l[i].Most.Sign() > 0 {
				l[i].Most = l[i].Most.Add(s.positive())
			}
		}
	}
	return stance{l, x.weight}
}

// P7.11: what makes it easier to hold makes the support no smaller.
func TestMore(t *testing.T) {
	s := source(751)
	grown := 0
	for range 200 {
		x := s.sure(api.MaxContacts - 1)
		y := s.easier(x)
		low, high, below, above, _ := balance.Support(x.l, x.weight)
		lower, higher, isBelow, isAbove, e := balance.Support(y.l, y.weight)
		expectError(t, "Support of "+y.text(), e, api.OK)
		if isBelow && (!below || lower.Cmp(low) > 0) || isAbove && (!above || higher.Cmp(high) < 0) {
			t.Error("the support of", y.text(), "is smaller than that of", x.text())
		}
		if supportText(low, high, below, above) != supportText(lower, higher, isBelow, isAbove) {
			grown++
		}
	}
	if grown < 50 {
		t.Error("only", grown, "supports have grown")
	}
}

// P7.12: from each state of a capture set Stop leads to rest, by good steps,
// whatever pushes come.
func TestStopping(t *testing.T) {
	s := source(752)
	for range 100 {
		k := s.below(api.MaxSteps + 1)
		p := s.handy(k)
		set, _ := balance.Capture(p, k)
		from, pushes := s.inside(set), s.pushes(p, k)
		name := strconv.Itoa(k) + " of " + pendulumText(p) + stateText(from) + numsText(pushes)
		moves, last, e := balance.Stop(p, k, from, pushes)
		expectError(t, "Stop for "+name, e, api.OK)
		if len(moves) != k {
			t.Error("Stop for", name, "makes", len(moves), "steps")
		}
		now := from
		for i, m := range moves {
			expect(t, "the push of a step", m.Push.Text(), pushes[i].Text())
			now, e = balance.Next(p, now, m)
			expectError(t, "a step of Stop for "+name, e, api.OK)
			goal, _ := balance.Capture(p, k-i-1)
			expectBool(t, "the step leads into the next capture set", hull.Has(goal, numbers(now)), true)
		}
		expect(t, "the state behind Stop for "+name, stateText(last), stateText(now))
		rest, _ := balance.Rest(p)
		expectBool(t, "Stop for "+name+" comes to rest", hull.Has(rest, numbers(last)), true)
	}
}

// P7.12, the other way round: from no state outside of a capture set one can
// come into the one before for both greatest pushes.
func TestNoStopping(t *testing.T) {
	s := source(753)
	outside := 0
	for range 150 {
		k := 1 + s.below(api.MaxSteps)
		p := s.pendulum()
		from := s.nearby(p)
		set, _ := balance.Capture(p, k)
		_, _, back := balance.Choose(p, k, pushed(from, p.Push.Neg()))
		_, _, forth := balance.Choose(p, k, pushed(from, p.Push))
		is := hull.Has(set, numbers(from))
		expectBool(t, "in Capture of "+strconv.Itoa(k)+" of "+pendulumText(p)+stateText(from), is, back == api.OK && forth == api.OK)
		_, _, e := balance.Stop(p, k, from, s.pushes(p, k))
		expectBool(t, "Stop", e == api.OK, is)
		if !is {
			outside++
			expectError(t, "Stop", e, api.ErrVoid)
		}
	}
	if outside < 50 {
		t.Error("only", outside, "states are outside")
	}
}

// P7.13: from rest, a swing with the pressure X + V comes nearer to it, and
// stays at rest.
func TestResting(t *testing.T) {
	s := source(754)
	for range 150 {
		p := s.pendulum()
		rest, e := balance.Rest(p)
		expectError(t, "Rest", e, api.OK)
		from := s.inside(rest)
		pressure := from.X.Add(from.V)
		to, e := balance.Swing(p, from, pressure)
		expectError(t, "Swing", e, api.OK)
		name := pendulumText(p) + stateText(from)
		expectBool(t, "at rest after a swing of "+name, hull.Has(rest, numbers(to)), true)
		expect(t, "X + V after a swing of "+name, to.X.Add(to.V).Text(), pressure.Text())
		one := num("1")
		decay := over(one.Sub(p.Grow), one.Add(p.Grow)) // c - s
		expect(t, "the distance after a swing of "+name, to.X.Sub(pressure).Text(), from.X.Sub(pressure).Mul(decay).Text())
	}
}

// expectWithin checks that the capture sets of one pendulum contain those of
// another one, and returns how many of them are greater.
func expectWithin(t *testing.T, small, great balance.Pendulum) int {
	t.Helper()
	grown := 0
	for k := range api.MaxSteps + 1 {
		p, e := balance.Capture(small, k)
		expectError(t, "Capture", e, api.OK)
		q, e := balance.Capture(great, k)
		expectError(t, "Capture", e, api.OK)
		within, _ := hull.Within(p, q)
		if !within.Holds {
			t.Error("the capture set of", k, "of", pendulumText(great), "does not contain that of", pendulumText(small))
		}
		if polyText(p) != polyText(q) {
			grown++
		}
	}
	return grown
}

// P7.14: with less push, or a longer foot, the capture sets are no smaller.
func TestLessPush(t *testing.T) {
	s := source(755)
	less, longer := 0, 0
	for range 40 {
		p := s.pendulum()
		p.Push = p.Push.Add(num("1/50"))
		q := p
		q.Push = p.Push.Mul(s.part())
		less += expectWithin(t, p, q)
		q = p
		q.Heel = s.between(p.Near, p.Heel)
		q.Toe = s.between(p.Toe, p.Far)
		longer += expectWithin(t, p, q)
	}
	if less < 30 || longer < 30 {
		t.Error("capture sets that have grown:", less, longer)
	}
}

// times returns a pendulum whose lengths are k times as great.
func times(p balance.Pendulum, k exact.Q) balance.Pendulum {
	return balance.Pendulum{
		Grow: p.Grow, Heel: p.Heel.Mul(k), Toe: p.Toe.Mul(k), Near: p.Near.Mul(k), Far: p.Far.Mul(k),
		Short: p.Short.Mul(k), Long: p.Long.Mul(k), Push: p.Push.Mul(k),
	}
}

// P7.15: if all lengths are k times as great, so are the sets.
func TestSizes(t *testing.T) {
	s := source(756)
	for range 40 {
		p, k := s.pendulum(), s.positive()
		q := times(p, k)
		expectSize := func(name string, small hull.Poly, e api.Errno, great hull.Poly, f api.Errno) {
			expectError(t, name, e, api.OK)
			want, _ := hull.Image(small, exact.Mat{{k, {}}, {{}, k}}, make([]exact.Q, 2))
			expectOK(t, name, polyText(great), f, polyText(want))
		}
		for n := range api.MaxSteps + 1 {
			small, e := balance.Capture(p, n)
			great, f := balance.Capture(q, n)
			expectSize("Capture of "+pendulumText(q), small, e, great, f)
			if n > 0 {
				small, e = balance.Ready(p, n)
				great, f = balance.Ready(q, n)
				expectSize("Ready of "+pendulumText(q), small, e, great, f)
			}
		}
	}
}
