package gait_test

import (
	"maps"
	"slices"
	"testing"

	"amble/api"
	"amble/exact"
	"amble/gait"
)

// graph is all states of a problem that can be reached, with the moves from
// them.
type graph struct {
	p      gait.Problem
	states map[string]gait.State
	moves  map[string][]gait.Move
}

// draw returns the graph of a valid problem.
func draw(p gait.Problem) graph {
	g := graph{p, map[string]gait.State{}, map[string][]gait.Move{}}
	phases := make([][]gait.State, len(p.Word))
	for phase := range p.Word {
		phases[phase] = possible(p, phase)
	}
	for fresh := []gait.State{g.start()}; len(fresh) > 0; {
		s := fresh[0]
		fresh = fresh[1:]
		name := placeText(s)
		if _, ok := g.states[name]; ok {
			continue
		}
		g.states[name] = s
		g.moves[name] = movesTo(p, s, phases[(s.Phase+1)%len(phases)])
		for _, m := range g.moves[name] {
			fresh = append(fresh, m.To)
		}
	}
	return g
}

func (g graph) start() gait.State { return gait.State{Holds: g.p.Start} }

// costs returns the least costs of the states that can be reached from the
// start: they are lowered until nothing changes.
func (g graph) costs() map[string]exact.Q {
	costs := map[string]exact.Q{placeText(g.start()): {}}
	for hasChanged := true; hasChanged; {
		hasChanged = false
		for name, moves := range g.moves {
			from, ok := costs[name]
			for _, m := range moves {
				sum := from.Add(m.Cost)
				if old, has := costs[placeText(m.To)]; ok && (!has || sum.Cmp(old) < 0) {
					costs[placeText(m.To)], hasChanged = sum, true
				}
			}
		}
	}
	return costs
}

// sorted returns the states, increasing. (No number of them has two digits.)
func (g graph) sorted() []string { return slices.Sorted(maps.Keys(g.states)) }

// isGoal reports whether a state is a goal.
func isGoal(p gait.Problem, s gait.State) bool {
	if s.Phase != 0 {
		return false
	}
	for leg, h := range s.Holds {
		if len(p.Goal) > 0 && h != p.Goal[leg] || len(p.Goal) == 0 && p.Map[h].At.X.Cmp(p.Target) < 0 {
			return false
		}
	}
	return true
}

// plan returns the plan.
func (g graph) plan() gait.Plan {
	var a gait.Plan
	costs, last := g.costs(), ""
	for _, name := range g.sorted() {
		a.Marks = append(a.Marks, gait.Mark{State: g.states[name], Value: costs[name]})
		if isGoal(g.p, g.states[name]) && (last == "" || costs[name].Cmp(costs[last]) < 0) {
			last = name
		}
	}
	if last == "" {
		return a
	}
	a.Found, a.Cost = true, costs[last]
	for a.Way = []gait.State{g.states[last]}; last != placeText(g.start()); {
		last = g.before(costs, last)
		a.Way = slices.Insert(a.Way, 0, g.states[last])
	}
	return a
}

// before returns the least state from which a move leads to another one for the
// least cost of that.
func (g graph) before(costs map[string]exact.Q, state string) string {
	for _, name := range g.sorted() {
		for _, m := range g.moves[name] {
			if placeText(m.To) == state && costs[name].Add(m.Cost).Cmp(costs[state]) == 0 {
				return name
			}
		}
	}
	panic("a cost that no move gives")
}

// bush returns a problem with two ways to a goal, of one cost.
func bush(m string) gait.Problem {
	return gait.Problem{Map: holds(m), Walker: walker("2 3/2 1 1 3 0 1 0 1"), Word: word("3 1"), Start: ints("0 1"), Goal: ints("0 4")}
}

// P8.4: plans that are written out.
func TestFind(t *testing.T) {
	missing, there, nowhere, wide := example(), example(), example(), example()
	missing.Map, missing.Walker.Long = holds("0, 1, 3"), num("1")
	there.Target = exact.Q{}
	nowhere.Goal = ints("3 2")
	wide.Map, wide.Walker = holds("0, 1, 2, 2 1"), walker("2 2 1 1 2 0 0 0 1")
	marks := " of 0[0 1]=0 0[2 1]=6 0[2 3]=12 1[0 1]=1 1[2 1]=7 1[2 3]=13 2[0 1]=2 2[2 1]=8 2[2 3]=10 3[0 1]=3 3[2 1]=9 3[2 3]=11"
	for _, c := range []struct {
		name string
		p    gait.Problem
		want string
	}{
		{"the start is a goal", there, "true 0 by 0[0 1]" + marks},
		{"the example", example(), "true 12 by 0[0 1] 1[0 1] 2[0 1] 3[0 1] 0[2 1] 1[2 1] 2[2 3] 3[2 3] 0[2 3]" + marks},
		{"a goal that cannot be reached", nowhere, "false 0 by " + marks},
		{"a foothold is missing", missing, "false 0 by  of 0[0 1]=0 1[0 1]=1 2[0 1]=2 3[0 1]=3"},
	} {
		a, e := gait.Find(c.p)
		expectOK(t, "Find: "+c.name, planText(a), e, c.want)
	}
	second, third := "0[0 1] 1[0 1] 0[0 2] 1[0 2] 0[0 4]", "0[0 1] 1[0 1] 0[0 3] 1[0 3] 0[0 4]"
	for _, c := range []struct {
		name, want string
		p          gait.Problem
	}{
		{"of two goals of one cost the least one", "4: 0[0 1] 1[0 1] 2[0 3] 3[0 3] 0[2 3]", wide},
		{"the cheapest way", "6: " + second, bush("0, 1, 2 1, 2 -1 0 1/2, 3")},
		{"the cheapest way, through a greater state", "6: " + third, bush("0, 1, 2 1 0 1/2, 2 -1, 3")},
		{"of two ways the one through the least state", "6: " + second, bush("0, 1, 2 1, 2 -1, 3")},
		{"that through the least state, looked at later", "6: " + second, bush("0, 1, 5/2 1, 2 -1, 3")},
		{"that through the least state, looked at at first", "6: " + second, bush("0, 1, 2 1, 5/2 -1, 3")},
	} {
		a, e := gait.Find(c.p)
		expectOK(t, "Find: "+c.name, a.Cost.Text()+": "+wayText(a.Way), e, c.want)
	}
}

// P8.4: problems that look random, most of them with several ways of one cost.
func TestRandomPlans(t *testing.T) {
	s := source(840)
	found, none, long := 0, 0, 0
	for range 300 {
		p := s.problem()
		a, e := gait.Find(p)
		want := draw(p).plan()
		expectOK(t, "Find for "+problemText(p), planText(a), e, planText(want))
		if a.Found {
			found++
		} else {
			none++
		}
		if len(a.Way) > 4 {
			long++
		}
	}
	if found < 80 || none < 80 || long < 40 {
		t.Error("plans with a way, without, with a long way:", found, none, long)
	}
}

// two returns a problem in which the leg 0 can step on some footholds and the
// leg 1, far above it, on others; some of them bear two legs but not one.
func two(strong, weak, strongAbove, weakAbove int) gait.Problem {
	p := gait.Problem{Walker: walker("2 100 1 1 100 2 1 0 1"), Word: word("3 1 3 1 3 2"), Start: []int{0, strong + weak}, Target: num("1000")}
	put := func(n int, z, bearing string) {
		for range n {
			x := exact.Int(int64(len(p.Map)))
			p.Map = append(p.Map, gait.Hold{At: exact.Point{X: x, Z: num(z)}, Bearing: num(bearing)})
		}
	}
	put(strong, "0", "2")
	put(weak, "0", "1")
	put(strongAbove, "50", "0")
	put(weakAbove, "50", "1")
	return p
}

// count returns how many states can be reached.
func count(p gait.Problem) int {
	seen := map[string]bool{}
	for fresh := []gait.State{{Holds: p.Start}}; len(fresh) > 0; {
		s := fresh[len(fresh)-1]
		fresh = fresh[:len(fresh)-1]
		if seen[placeText(s)] {
			continue
		}
		seen[placeText(s)] = true
		moves, _ := gait.Moves(p, s)
		for _, m := range moves {
			fresh = append(fresh, m.To)
		}
	}
	return len(seen)
}

// P8.4: as many states as can be reached at most, and one more.
func TestManyStates(t *testing.T) {
	for _, c := range []struct {
		p    gait.Problem
		n    int
		want api.Errno
	}{
		{two(33, 2, 25, 0), api.MaxStates, api.OK},
		{two(27, 2, 30, 1), api.MaxStates + 1, api.ErrLimit},
		{two(27, 2, 29, 3), api.MaxStates - 1, api.OK},
		{two(32, 0, 32, 0), 6144, api.ErrLimit},
	} {
		if n := count(c.p); n != c.n {
			t.Error("the states are", n, "and should be", c.n)
		}
		a, e := gait.Find(c.p)
		expectError(t, "Find of many states", e, c.want)
		expectBool(t, "Prove of many states", gait.Prove(c.p, a), e == api.OK)
		if e == api.OK && len(a.Marks) != c.n {
			t.Error("the marks are", len(a.Marks), "and should be", c.n)
		}
	}
	// A goal that is near does not help.
	p := two(27, 2, 30, 1)
	p.Target = exact.Q{}
	_, e := gait.Find(p)
	expectError(t, "Find of many states, with a start that is a goal", e, api.ErrLimit)
}
