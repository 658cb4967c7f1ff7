package gait_test

import (
	"slices"
	"testing"

	"amble/api"
	"amble/balance"
	"amble/exact"
	"amble/gait"
	"amble/hull"
)

// The properties of the chapter, for problems and laws that look random.

// others returns plans that are no plan of Find, but may be proofs too.
func (s *source) others(p gait.Problem, a gait.Plan) []gait.Plan {
	lower, less, other := a, a, a
	lower.Marks = slices.Clone(a.Marks)
	by := s.part()
	for i := range lower.Marks {
		lower.Marks[i].Value = lower.Marks[i].Value.Mul(by)
		if isGoal(p, lower.Marks[i].State) {
			lower.Marks[i].Value = exact.Max(lower.Marks[i].Value, a.Cost)
		}
	}
	less.Marks = s.alterMarks(p, a.Marks)
	other.Found, other.Cost = !a.Found, a.Cost.Add(s.one("1 -1 0"))
	all := []gait.Plan{lower, less, other, {Marks: a.Marks}}
	if len(a.Way) > 2 {
		way, i := a, 1+s.below(len(a.Way)-2)
		state := a.Way[i]
		state.Holds = with(state.Holds, s.below(p.Walker.Legs), s.below(len(p.Map)))
		way.Way = with(a.Way, i, state)
		all = append(all, way)
	}
	return all
}

// P8.10: what Find returns is a proof, and other proofs say the same.
func TestProofs(t *testing.T) {
	s := source(8100)
	accepted := 0
	for range 400 {
		p := s.problem()
		a, e := gait.Find(p)
		expectError(t, "Find", e, api.OK)
		expectBool(t, "Prove of the plan for "+problemText(p), gait.Prove(p, a), true)
		for _, b := range s.others(p, a) {
			if !gait.Prove(p, b) {
				continue
			}
			accepted++
			if a.Found != b.Found || a.Cost.Cmp(b.Cost) != 0 {
				t.Error("a proof of something else:", problemText(p), planText(b))
			}
		}
	}
	if accepted < 200 {
		t.Error("only", accepted, "other proofs")
	}
}

// stroll makes up to n moves from the start, and returns the least cost at which
// it came to a goal.
func (s *source) stroll(p gait.Problem, n int) (least exact.Q, ok bool) {
	at, cost := gait.State{Holds: p.Start}, exact.Q{}
	for range n {
		if isGoal(p, at) && (!ok || cost.Cmp(least) < 0) {
			least, ok = cost, true
		}
		moves, _ := gait.Moves(p, at)
		if len(moves) == 0 {
			break
		}
		m := moves[s.below(len(moves))]
		at, cost = m.To, cost.Add(m.Cost)
	}
	return least, ok
}

// P8.11: no way is cheaper than the cost of a plan; without one there is none.
func TestCheapest(t *testing.T) {
	s := source(8110)
	came, same := 0, 0
	for range 300 {
		p := s.problem()
		a, _ := gait.Find(p)
		for range 8 {
			cost, ok := s.stroll(p, 30)
			if !ok {
				continue
			}
			came++
			if !a.Found || cost.Cmp(a.Cost) < 0 {
				t.Error("a way for", cost.Text(), "in", problemText(p))
			}
			if cost.Cmp(a.Cost) == 0 {
				same++
			}
		}
	}
	if came < 300 || same < 50 {
		t.Error("ways that came to a goal, and that cost no more:", came, same)
	}
}

// P8.12: rotations have the same normal form and the same duties; the duties are
// in all the mean number of standing legs.
func TestRotations(t *testing.T) {
	s := source(8120)
	for range 300 {
		legs := 2 + s.below(3)
		w := s.word(legs, 0)
		i := s.below(len(w))
		turned := slices.Concat(w[i:], w[:i])
		first, e := gait.Normal(legs, w)
		second, f := gait.Normal(legs, turned)
		expectError(t, "Normal", e, api.OK)
		expectOK(t, "Normal of "+wordText(turned), wordText(second), f, wordText(first))
		sum, standing := exact.Q{}, int64(0)
		for leg := range legs {
			duty, e := gait.Duty(legs, w, leg)
			expectError(t, "Duty", e, api.OK)
			other, e := gait.Duty(legs, turned, leg)
			expectOK(t, "Duty of "+wordText(turned), other.Text(), e, duty.Text())
			sum = sum.Add(duty)
		}
		for _, phase := range w {
			for ; phase > 0; phase /= 2 {
				standing += int64(phase % 2)
			}
		}
		mean, _ := exact.Of(standing, int64(len(w)))
		expect(t, "the duties of "+wordText(w), sum.Text(), mean.Text())
	}
}

// easier returns a problem with one more foothold, or in which legs can do more.
func (s *source) easier(p gait.Problem) gait.Problem {
	w := &p.Walker
	more := s.one("1/2 1 1 2")
	switch s.below(5) {
	case 0:
		p.Map = append(slices.Clone(p.Map), first(s.hold, func(h gait.Hold) bool {
			return gait.CheckMap(append(slices.Clone(p.Map), h)) == api.OK
		}))
	case 1:
		w.Long = w.Long.Add(more)
	case 2:
		w.Up = w.Up.Add(more)
	case 3:
		w.Down = w.Down.Add(more)
	case 4:
		w.Span = w.Span.Add(more)
	}
	return p
}

// P8.13: with more footholds, or with legs that can do more, no way is dearer.
func TestMoreFootholds(t *testing.T) {
	s := source(8130)
	cheaper, newer, same := 0, 0, 0
	for range 1500 {
		p := s.problem()
		q := s.easier(p)
		a, e := gait.Find(p)
		expectError(t, "Find", e, api.OK)
		b, e := gait.Find(q)
		expectError(t, "Find of what is easier", e, api.OK)
		switch {
		case !a.Found && b.Found:
			newer++
		case !a.Found:
		case !b.Found || b.Cost.Cmp(a.Cost) > 0:
			t.Error("a dearer way:", problemText(p), problemText(q))
		case b.Cost.Cmp(a.Cost) < 0:
			cheaper++
		default:
			same++
		}
	}
	if cheaper < 10 || newer < 10 || same < 100 {
		t.Error("cheaper ways, ways where there was none, ways of the same cost:", cheaper, newer, same)
	}
}

// P8.14: from each state of a basin, whatever pushes come, all steps of the law
// are good and lead to states of the basin; a closed basin is one.
func TestRecovering(t *testing.T) {
	s := source(8140)
	for range 80 {
		r, set := s.steady()
		expectBool(t, "ProveBasin of the basin of "+r.text(), gait.ProveBasin(r.p, r.l, set), true)
		from, pushes := s.inside(set), s.pushes(r.p, s.below(api.MaxWalk+1))
		states, e := gait.Walk(r.p, r.l, from, pushes)
		expectError(t, "Walk of "+r.text()+" from "+stateText(from), e, api.OK)
		if len(states) != len(pushes) {
			t.Error("Walk makes", len(states), "steps of", len(pushes))
		}
		for _, at := range states {
			expectBool(t, "the basin of "+r.text()+" has "+stateText(at), hull.Has(set, numbers(at)), true)
		}
	}
}

// narrower returns a rhythm in which less is allowed.
func (s *source) narrower(r rhythm) rhythm {
	p, part := r.p, func(q exact.Q) exact.Q { return q.Mul(s.one("1 1 1 9/10 3/4")) }
	p.Near, p.Far = exact.Min(part(p.Near), p.Heel), exact.Max(part(p.Far), p.Toe)
	p.Heel, p.Toe = part(p.Heel), part(p.Toe)
	p.Short, p.Long = part(p.Short), part(p.Long)
	return rhythm{p, r.l}
}

// P8.15: each basin is part of what Basin returns, whatever the rounds.
func TestMaximal(t *testing.T) {
	s := source(8150)
	less, open := 0, 0
	for range 60 {
		r, _ := s.steady()
		small := s.narrower(r)
		basin, closed, e := gait.Basin(small.p, small.l, api.MaxRounds)
		if e != api.OK || !closed {
			continue
		}
		expectBool(t, "the basin of "+small.text()+" is one of "+r.text(), gait.ProveBasin(r.p, r.l, basin), true)
		for rounds := range api.MaxRounds + 1 {
			set, closed, e := gait.Basin(r.p, r.l, rounds)
			expectError(t, "Basin of "+r.text(), e, api.OK)
			within, e := hull.Within(basin, set)
			expectError(t, "Within", e, api.OK)
			expectBool(t, "a basin of "+r.text()+" is part of the greatest one", within.Holds, true)
			if !closed {
				open++
			}
			if polyText(set) != polyText(basin) {
				less++
			}
		}
	}
	if less < 100 || open < 60 {
		t.Error("greater sets, and such that are not closed:", less, open)
	}
}

// P8.7: without pushes, stable rhythms approach the fixed state, and others do
// not.
func TestApproaching(t *testing.T) {
	s := source(8160)
	stable, others := 0, 0
	for range 200 {
		r := s.rhythm()
		fixed, e := gait.Fixed(r.p, r.l)
		is, f := gait.Stable(r.p, r.l)
		expectError(t, "Stable", f, api.OK)
		if e != api.OK {
			expectBool(t, "Stable of "+r.text()+", without one fixed state", is, false)
			continue
		}
		isNear := true
		for _, by := range []balance.State{{X: num("1")}, {V: num("1")}} {
			at := balance.State{X: fixed.X.Add(by.X), V: fixed.V.Add(by.V)}
			for range 300 {
				_, _, _, at = stepped(r, at)
			}
			far := exact.Max(at.X.Sub(fixed.X).Abs(), at.V.Sub(fixed.V).Abs())
			isNear = isNear && far.Cmp(num("1/100")) < 0
		}
		expectBool(t, "Stable of "+r.text(), is, isNear)
		if is {
			stable++
		} else {
			others++
		}
	}
	if stable < 40 || others < 30 {
		t.Error("stable rhythms, and others:", stable, others)
	}
}
