package gait_test

import (
	"math"
	"slices"
	"strconv"
	"testing"

	"amble/api"
	"amble/exact"
	"amble/gait"
)

// isLower reports whether a state stands before another one.
func isLower(a, b gait.State) bool {
	if a.Phase != b.Phase {
		return a.Phase < b.Phase
	}
	for leg, h := range a.Holds {
		if h != b.Holds[leg] {
			return h < b.Holds[leg]
		}
	}
	return false
}

// areClosed reports whether marks are closed, for a valid problem.
func areClosed(p gait.Problem, marks []gait.Mark) bool {
	values := map[string]exact.Q{}
	phases := make([][]gait.State, len(p.Word))
	for i, m := range marks {
		if !canBe(p, m.State) || m.Value.Sign() < 0 || i > 0 && !isLower(marks[i-1].State, m.State) {
			return false
		}
		values[placeText(m.State)] = m.Value
		if phases[m.State.Phase] == nil {
			phases[m.State.Phase] = possible(p, m.State.Phase)
		}
	}
	start, ok := values[placeText(gait.State{Holds: p.Start})]
	if !ok || start.Sign() != 0 {
		return false
	}
	for _, m := range marks {
		next := (m.State.Phase + 1) % len(p.Word)
		if phases[next] == nil {
			phases[next] = possible(p, next)
		}
		for _, move := range movesTo(p, m.State, phases[next]) {
			value, ok := values[placeText(move.To)]
			if !ok || value.Cmp(m.Value.Add(move.Cost)) > 0 {
				return false
			}
		}
	}
	return true
}

// isWay reports whether a way leads from the start to a goal for a cost.
func isWay(p gait.Problem, way []gait.State, cost exact.Q) bool {
	if len(way) == 0 || placeText(way[0]) != placeText(gait.State{Holds: p.Start}) || !isGoal(p, way[len(way)-1]) {
		return false
	}
	sum := exact.Q{}
	for i := 1; i < len(way); i++ {
		one, ok := moveCost(p, way[i-1], way[i])
		if !ok {
			return false
		}
		sum = sum.Add(one)
	}
	return sum.Cmp(cost) == 0
}

// isProof reports whether a problem is valid and a plan is a proof for it.
func isProof(p gait.Problem, a gait.Plan) bool {
	if !isProblem(p) || !areClosed(p, a.Marks) {
		return false
	}
	for _, m := range a.Marks {
		if isGoal(p, m.State) && (!a.Found || m.Value.Cmp(a.Cost) < 0) {
			return false
		}
	}
	if a.Found {
		return isWay(p, a.Way, a.Cost)
	}
	return len(a.Way) == 0 && a.Cost.Sign() == 0
}

// places returns the states of a text like "0 0 1, 1 0 1".
func places(l ...string) []gait.State {
	var all []gait.State
	for _, s := range l {
		all = append(all, place(s))
	}
	return all
}

// valued returns a mark with another value.
func valued(m gait.Mark, value string) gait.Mark { return gait.Mark{State: m.State, Value: num(value)} }

// P8.5: the plan of the example, altered in one place.
func TestProve(t *testing.T) {
	// The marks: 0 0[0 1]=0, 1 0[2 1]=6, 2 0[2 3]=12, 3 1[0 1]=1, 4 1[2 1]=7,
	// 5 1[2 3]=13, 6 2[0 1]=2, 7 2[2 1]=8, 8 2[2 3]=10, 9 3[0 1]=3, 10 3[2 1]=9,
	// 11 3[2 3]=11.
	for _, c := range []struct {
		name  string
		alter func(p *gait.Problem, a *gait.Plan)
		want  bool
	}{
		{"as it is", func(p *gait.Problem, a *gait.Plan) {}, true},
		{"a wrong problem", func(p *gait.Problem, a *gait.Plan) { p.Map[3].Cost = num("-1") }, false},
		{"a wrong goal", func(p *gait.Problem, a *gait.Plan) { p.Goal = ints("2") }, false},
		{"that goal", func(p *gait.Problem, a *gait.Plan) { p.Goal = ints("2 3") }, true},
		{"another goal", func(p *gait.Problem, a *gait.Plan) { p.Goal = ints("2 1") }, false},
		{"a target just reached", func(p *gait.Problem, a *gait.Plan) { p.Target = num("3/2") }, true},
		{"a target reached before", func(p *gait.Problem, a *gait.Plan) { p.Target = num("1") }, false},
		{"a target not reached", func(p *gait.Problem, a *gait.Plan) { p.Target = num("3") }, false},
		{"another start", func(p *gait.Problem, a *gait.Plan) { p.Start = ints("2 1") }, false},
		{"a lesser Long", func(p *gait.Problem, a *gait.Plan) { p.Walker.Long = num("1") }, false},
		{"a greater Up", func(p *gait.Problem, a *gait.Plan) { p.Walker.Up = num("1") }, true},
		{"a greater Span", func(p *gait.Problem, a *gait.Plan) { p.Walker.Span = num("2") }, false},
		{"a lesser price", func(p *gait.Problem, a *gait.Plan) { p.Walker.PerPhase = num("1/2") }, false},

		{"no marks", func(p *gait.Problem, a *gait.Plan) { a.Marks = nil }, false},
		{"without the start", func(p *gait.Problem, a *gait.Plan) { a.Marks = without(a.Marks, 0) }, false},
		{"without a mark", func(p *gait.Problem, a *gait.Plan) { a.Marks = without(a.Marks, 5) }, false},
		{"without the goal", func(p *gait.Problem, a *gait.Plan) { a.Marks = without(a.Marks, 2) }, false},
		{"a mark twice", func(p *gait.Problem, a *gait.Plan) { a.Marks = slices.Insert(a.Marks, 4, a.Marks[4]) }, false},
		{"marks that are not increasing", func(p *gait.Problem, a *gait.Plan) { a.Marks[4], a.Marks[5] = a.Marks[5], a.Marks[4] }, false},
		{"phases that are not increasing", func(p *gait.Problem, a *gait.Plan) { slices.Reverse(a.Marks) }, false},
		{"the start not at once", func(p *gait.Problem, a *gait.Plan) { a.Marks[0] = valued(a.Marks[0], "1/1000") }, false},
		{"a value too great", func(p *gait.Problem, a *gait.Plan) { a.Marks[4] = valued(a.Marks[4], "7001/1000") }, false},
		{"a value that is just great enough", func(p *gait.Problem, a *gait.Plan) { a.Marks[5] = valued(a.Marks[5], "9") }, true},
		{"a value that is too small for the next one", func(p *gait.Problem, a *gait.Plan) { a.Marks[5] = valued(a.Marks[5], "8999/1000") }, false},
		{"a value below 0", func(p *gait.Problem, a *gait.Plan) { a.Marks[5] = valued(a.Marks[5], "-1/1000") }, false},
		{"a goal below the cost", func(p *gait.Problem, a *gait.Plan) { a.Marks[2] = valued(a.Marks[2], "11999/1000") }, false},
		{"a goal above the cost", func(p *gait.Problem, a *gait.Plan) { a.Marks[2] = valued(a.Marks[2], "12001/1000") }, false},
		{"a state that is not possible", func(p *gait.Problem, a *gait.Plan) {
			a.Marks = append(a.Marks, gait.Mark{State: place("4 0 1"), Value: num("100")})
		}, false},
		{"a foothold that is none", func(p *gait.Problem, a *gait.Plan) {
			a.Marks = append(a.Marks, gait.Mark{State: gait.State{Phase: 3, Holds: []int{3, math.MaxInt}}, Value: num("100")})
		}, false},
		{"a state with a leg too many", func(p *gait.Problem, a *gait.Plan) {
			a.Marks[11].State.Holds = ints("2 3 0")
		}, false},
		{"a state with a leg too few", func(p *gait.Problem, a *gait.Plan) { a.Marks[11].State.Holds = ints("2") }, false},
		{"a state without footholds", func(p *gait.Problem, a *gait.Plan) { a.Marks[0].State.Holds = nil }, false},
		{"one more mark that is not closed", func(p *gait.Problem, a *gait.Plan) {
			a.Marks = append(a.Marks, gait.Mark{State: place("3 3 2"), Value: num("100")})
		}, false},

		{"not found", func(p *gait.Problem, a *gait.Plan) { a.Found = false }, false},
		{"not found, without a way", func(p *gait.Problem, a *gait.Plan) { *a = gait.Plan{Marks: a.Marks} }, false},
		{"no way", func(p *gait.Problem, a *gait.Plan) { a.Way = nil }, false},
		{"a cost too great", func(p *gait.Problem, a *gait.Plan) { a.Cost = num("13") }, false},
		{"a cost too small", func(p *gait.Problem, a *gait.Plan) { a.Cost = num("11") }, false},
		{"a way without its first state", func(p *gait.Problem, a *gait.Plan) { a.Way = a.Way[1:] }, false},
		{"a way without its last state", func(p *gait.Problem, a *gait.Plan) { a.Way = a.Way[:8] }, false},
		{"a way without another state", func(p *gait.Problem, a *gait.Plan) { a.Way = without(a.Way, 4) }, false},
		{"a way with a state twice", func(p *gait.Problem, a *gait.Plan) { a.Way = slices.Insert(a.Way, 4, a.Way[4]) }, false},
		{"a way backward", func(p *gait.Problem, a *gait.Plan) { slices.Reverse(a.Way) }, false},
		{"a way with another first state", func(p *gait.Problem, a *gait.Plan) { a.Way[0] = place("0 2 1") }, false},
		{"a way from another phase", func(p *gait.Problem, a *gait.Plan) { a.Way[0].Phase = 2 }, false},
		{"a way with a foothold too many", func(p *gait.Problem, a *gait.Plan) { a.Way[0].Holds = ints("0 1 0") }, false},
		{"a way with a foothold too many behind", func(p *gait.Problem, a *gait.Plan) { a.Way[3].Holds = ints("0 1 0") }, false},
		{"a way that ends with a foothold too many", func(p *gait.Problem, a *gait.Plan) { a.Way[8].Holds = ints("2 3 0") }, false},
		{"a way with another foothold", func(p *gait.Problem, a *gait.Plan) { a.Way[6].Holds = ints("2 1") }, false},
		{"a way with a foothold that is none", func(p *gait.Problem, a *gait.Plan) { a.Way[6].Holds = []int{2, math.MinInt} }, false},
		{"a way with a phase that is none", func(p *gait.Problem, a *gait.Plan) { a.Way[6].Phase = math.MaxInt }, false},
		{"a dearer way to a goal", func(p *gait.Problem, a *gait.Plan) {
			a.Way = append(a.Way, places("1 2 3", "2 2 3", "3 2 3", "0 2 3")...)
			a.Cost = num("16")
		}, false},
		{"a dearer way for the same cost", func(p *gait.Problem, a *gait.Plan) {
			a.Way = append(a.Way, places("1 2 3", "2 2 3", "3 2 3", "0 2 3")...)
		}, false},
		{"a way on from the goal", func(p *gait.Problem, a *gait.Plan) {
			a.Way = append(a.Way, place("1 2 3"))
			a.Cost = num("13")
		}, false},
	} {
		p := example()
		a, _ := gait.Find(p)
		c.alter(&p, &a)
		expectBool(t, "Prove: "+c.name, gait.Prove(p, a), c.want)
		expectBool(t, "what is a proof: "+c.name, isProof(p, a), c.want)
	}
}

// P8.5: a plan that says that there is no way, altered in one place.
func TestProveNone(t *testing.T) {
	// The marks: 0[0 1]=0 1[0 1]=1 2[0 1]=2 3[0 1]=3.
	for _, c := range []struct {
		name  string
		alter func(a *gait.Plan)
		want  bool
	}{
		{"as it is", func(a *gait.Plan) {}, true},
		{"all values 0", func(a *gait.Plan) {
			for i := range a.Marks {
				a.Marks[i].Value = exact.Q{}
			}
		}, true},
		{"values too great", func(a *gait.Plan) { a.Marks[3].Value = num("4") }, false},
		{"found", func(a *gait.Plan) { a.Found = true }, false},
		{"found at the start", func(a *gait.Plan) { a.Found, a.Way = true, places("0 0 1") }, false},
		{"a cost", func(a *gait.Plan) { a.Cost = num("1") }, false},
		{"a way", func(a *gait.Plan) { a.Way = places("0 0 1") }, false},
		{"an empty way", func(a *gait.Plan) { a.Way = []gait.State{} }, true},
		{"no marks", func(a *gait.Plan) { a.Marks = nil }, false},
		{"the start alone", func(a *gait.Plan) { a.Marks = a.Marks[:1] }, false},
		{"more marks, closed", func(a *gait.Plan) {
			for phase, i := range ints("1 3 5 7") {
				more := gait.Mark{State: gait.State{Phase: phase, Holds: ints("1 0")}, Value: num("7")}
				a.Marks = slices.Insert(a.Marks, i, more)
			}
		}, true},
		{"more marks, not closed", func(a *gait.Plan) {
			a.Marks = append(a.Marks, gait.Mark{State: place("3 1 0"), Value: num("7")})
		}, false},
		{"a goal among the marks, closed", func(a *gait.Plan) {
			for phase := range 4 {
				more := gait.Mark{State: gait.State{Phase: phase, Holds: ints("3 2")}, Value: num("7")}
				a.Marks = slices.Insert(a.Marks, 2*phase+1, more)
			}
		}, false},
		{"nothing", func(a *gait.Plan) { *a = gait.Plan{} }, false},
	} {
		p := example()
		p.Map, p.Walker.Long = holds("0, 1, 3, 4"), num("1")
		if c.name == "more marks, closed" || c.name == "a goal among the marks, closed" {
			p.Walker.Long = num("1/2") // so that legs can only stay
		}
		a, _ := gait.Find(p)
		c.alter(&a)
		expectBool(t, "Prove: "+c.name, gait.Prove(p, a), c.want)
		expectBool(t, "what is a proof: "+c.name, isProof(p, a), c.want)
	}
}

// alterMarks changes marks in one place, or all of them.
func (s *source) alterMarks(p gait.Problem, marks []gait.Mark) []gait.Mark {
	if len(marks) == 0 {
		return marks
	}
	i, k := s.below(len(marks)), s.below(len(marks))
	m := marks[i]
	switch s.below(7) {
	case 0:
		return without(marks, i)
	case 1:
		return slices.Insert(slices.Clone(marks), k, m)
	case 2:
		marks = with(marks, i, marks[k])
		marks[k] = m
		return marks
	case 3, 4:
		m.Value = m.Value.Add(s.one("1 -1 1/2 -1/2 -1 -2 -2"))
	case 5:
		m.State.Holds = with(m.State.Holds, s.below(p.Walker.Legs), s.below(len(p.Map)+2)-1)
	case 6:
		by := s.part()
		marks = slices.Clone(marks)
		for i := range marks {
			marks[i].Value = marks[i].Value.Mul(by)
		}
		return marks
	}
	return with(marks, i, m)
}

// alterWay changes a way in one place.
func (s *source) alterWay(p gait.Problem, way []gait.State) []gait.State {
	if len(way) == 0 {
		return []gait.State{{Holds: p.Start}}
	}
	i := s.below(len(way))
	switch s.below(5) {
	case 0:
		return without(way, i)
	case 1:
		return slices.Insert(slices.Clone(way), s.below(len(way)), way[i])
	case 2:
		moves, _ := gait.Moves(p, way[i])
		if len(moves) > 0 {
			return append(slices.Clone(way[:i+1]), moves[s.below(len(moves))].To)
		}
	case 3:
		state := way[i]
		state.Holds = with(state.Holds, s.below(p.Walker.Legs), s.below(len(p.Map)))
		return with(way, i, state)
	}
	state := way[i]
	state.Phase = s.below(len(p.Word)+2) - 1
	return with(way, i, state)
}

// alterPlan changes a plan, or the problem, in one or two places.
func (s *source) alterPlan(p gait.Problem, a gait.Plan) (gait.Problem, gait.Plan) {
	for range 1 + s.below(2) {
		switch s.below(6) {
		case 0, 1:
			a.Marks = s.alterMarks(p, a.Marks)
		case 2:
			a.Way = s.alterWay(p, a.Way)
		case 3:
			a.Cost = a.Cost.Add(s.one("1 -1 1/2"))
		case 4:
			a.Found = !a.Found
			a.Way, a.Cost = nil, exact.Q{}
		case 5:
			p.Target, p.Goal = s.one("1 2 3 4"), nil
		}
	}
	return p, a
}

// P8.5: plans that look random.
func TestRandomProofs(t *testing.T) {
	s := source(850)
	right, wrong := 0, 0
	for range 150 {
		p := s.problem()
		a, e := gait.Find(p)
		expectError(t, "Find", e, api.OK)
		if len(a.Marks) > 200 {
			continue // so that they can be looked at pair by pair
		}
		for range 8 {
			q, b := s.alterPlan(p, a)
			is := isProof(q, b)
			expectBool(t, "Prove for "+problemText(q)+" of "+planText(b), gait.Prove(q, b), is)
			if is {
				right++
			} else {
				wrong++
			}
		}
	}
	if right < 50 || wrong < 400 {
		t.Error("proofs, and what is none: " + strconv.Itoa(right) + " " + strconv.Itoa(wrong))
	}
}
