package gait_test

import (
	"math"
	"slices"
	"strings"
	"testing"

	"amble/api"
	"amble/exact"
	"amble/gait"
)

// Problems and moves, by a second writing of the chapter's definitions, state by
// state and pair by pair.

// canBe reports whether a state of a valid map, walker and word is possible.
func canBe(p gait.Problem, s gait.State) bool {
	if s.Phase < 0 || s.Phase >= len(p.Word) || len(s.Holds) != p.Walker.Legs {
		return false
	}
	var on []int
	for leg, h := range s.Holds {
		if h < 0 || h >= len(p.Map) {
			return false
		}
		if read(p.Word)[s.Phase][leg] {
			on = append(on, h)
		}
	}
	share := over(p.Walker.Weight, exact.Int(int64(len(on))))
	for i, h := range on {
		if p.Map[h].Bearing.Sign() != 0 && share.Cmp(p.Map[h].Bearing) > 0 {
			return false
		}
		for _, other := range on[:i] {
			if h == other || p.Map[h].At.X.Sub(p.Map[other].At.X).Abs().Cmp(p.Walker.Span) > 0 {
				return false
			}
		}
	}
	return true
}

// isProblem reports whether a problem is valid.
func isProblem(p gait.Problem) bool {
	if gait.CheckMap(p.Map) != api.OK || gait.CheckWalker(p.Walker) != api.OK || !isWord(p.Walker.Legs, p.Word) {
		return false
	}
	isMissing := func(h int) bool { return h < 0 || h >= len(p.Map) }
	hasGoal := len(p.Goal) == p.Walker.Legs && !slices.ContainsFunc(p.Goal, isMissing)
	return canBe(p, gait.State{Holds: p.Start}) && (len(p.Goal) == 0 || hasGoal)
}

// stepCost returns the cost of bringing a leg from one foothold to another one,
// if it can.
func stepCost(w gait.Walker, from, to gait.Hold) (exact.Q, bool) {
	d := to.At.Sub(from.At)
	cost := w.PerPhase.Add(to.Cost)
	if d.X.Cmp(w.Long) > 0 || d.X.Neg().Cmp(w.Long) > 0 || d.Z.Cmp(w.Up) > 0 || d.Z.Neg().Cmp(w.Down) > 0 {
		return exact.Q{}, false
	}
	cost = cost.Add(w.PerLength.Mul(d.X.Abs()))
	if d.Z.Sign() > 0 {
		cost = cost.Add(w.PerRise.Mul(d.Z))
	}
	return cost, true
}

// moveCost returns the cost of the move from a possible state to another state,
// if there is one.
func moveCost(p gait.Problem, a, b gait.State) (cost exact.Q, ok bool) {
	if b.Phase != a.Phase+1 && (b.Phase != 0 || a.Phase != len(p.Word)-1) || !canBe(p, b) {
		return cost, false
	}
	cost, ok = p.Walker.PerPhase, true
	for leg := range a.Holds {
		isPlaced := !read(p.Word)[a.Phase][leg] && read(p.Word)[b.Phase][leg]
		if isPlaced {
			cost, ok = stepCost(p.Walker, p.Map[a.Holds[leg]], p.Map[b.Holds[leg]])
		} else if a.Holds[leg] != b.Holds[leg] {
			return exact.Q{}, false
		}
	}
	return cost, ok
}

// everywhere returns all lists of so many footholds, increasing.
func everywhere(legs, n int) [][]int {
	all := [][]int{nil}
	for range legs {
		var longer [][]int
		for _, l := range all {
			for h := range n {
				longer = append(longer, append(slices.Clone(l), h))
			}
		}
		all = longer
	}
	return all
}

// possible returns all possible states of a phase, increasing.
func possible(p gait.Problem, phase int) []gait.State {
	var l []gait.State
	for _, holds := range everywhere(p.Walker.Legs, len(p.Map)) {
		if s := (gait.State{Phase: phase, Holds: holds}); canBe(p, s) {
			l = append(l, s)
		}
	}
	return l
}

// movesTo returns the moves from a possible state to some of a list.
func movesTo(p gait.Problem, s gait.State, all []gait.State) []gait.Move {
	var l []gait.Move
	for _, to := range all {
		if cost, ok := moveCost(p, s, to); ok {
			l = append(l, gait.Move{To: to, Cost: cost})
		}
	}
	return l
}

// movesFrom returns the moves from a possible state.
func movesFrom(p gait.Problem, s gait.State) []gait.Move {
	return movesTo(p, s, possible(p, (s.Phase+1)%len(p.Word)))
}

// expectProblemError checks the error of all calls with a problem.
func expectProblemError(t *testing.T, name string, p gait.Problem, want api.Errno) {
	t.Helper()
	expectError(t, "CheckProblem of "+name, gait.CheckProblem(p), want)
	_, e := gait.Moves(p, gait.State{Holds: p.Start})
	expectError(t, "Moves of "+name, e, want)
	a, e := gait.Find(p)
	expectError(t, "Find of "+name, e, want)
	expectBool(t, "Prove of "+name, gait.Prove(p, a), want == api.OK)
}

// P8.2: problems at the ends of what is valid, and beyond.
func TestProblemErrors(t *testing.T) {
	for _, c := range []struct {
		name  string
		alter func(*gait.Problem)
		want  api.Errno
	}{
		{"the example", func(p *gait.Problem) {}, api.OK},
		{"no map", func(p *gait.Problem) { p.Map = nil }, api.ErrArg},
		{"a wrong map", func(p *gait.Problem) { p.Map[3].Cost = num("-1") }, api.ErrArg},
		{"a wrong walker", func(p *gait.Problem) { p.Walker.PerPhase = exact.Q{} }, api.ErrArg},
		{"no leg", func(p *gait.Problem) { p.Walker.Legs, p.Start, p.Word = 0, nil, nil }, api.ErrArg},
		{"five legs", func(p *gait.Problem) { p.Walker.Legs, p.Start = 5, ints("0 1 0 1 0") }, api.ErrArg},
		{"one leg", func(p *gait.Problem) { p.Walker.Legs, p.Start, p.Word = 1, ints("0"), word("1 1") }, api.ErrArg},
		{"no word", func(p *gait.Problem) { p.Word = nil }, api.ErrArg},
		{"a wrong word", func(p *gait.Problem) { p.Word = word("3 1 3 3") }, api.ErrArg},
		{"a word for more legs", func(p *gait.Problem) { p.Word = word("3 7") }, api.ErrArg},
		{"no start", func(p *gait.Problem) { p.Start = nil }, api.ErrArg},
		{"a start with a leg too few", func(p *gait.Problem) { p.Start = ints("0") }, api.ErrArg},
		{"a start with a leg too many", func(p *gait.Problem) { p.Start = ints("0 1 2") }, api.ErrArg},
		{"a start beyond the map", func(p *gait.Problem) { p.Start = ints("3 4") }, api.ErrArg},
		{"a start at the end of the map", func(p *gait.Problem) { p.Start = ints("2 3") }, api.OK},
		{"a start before the map", func(p *gait.Problem) { p.Start = ints("-1 0") }, api.ErrArg},
		{"a start far from the map", func(p *gait.Problem) { p.Start = []int{0, math.MaxInt} }, api.ErrArg},
		{"a start far before the map", func(p *gait.Problem) { p.Start = []int{math.MinInt, 0} }, api.ErrArg},
		{"a start on one foothold", func(p *gait.Problem) { p.Start = ints("1 1") }, api.ErrArg},
		{"a start on one foothold, with a leg lifted", func(p *gait.Problem) { p.Start, p.Word = ints("1 1"), word("1 3 2 3") }, api.OK},
		{"a start with feet far apart", func(p *gait.Problem) { p.Start = ints("0 2") }, api.ErrArg},
		{"a start with feet far apart, with a leg lifted", func(p *gait.Problem) { p.Start, p.Word = ints("0 2"), word("1 3 2 3") }, api.OK},
		{"a start with feet just near enough", func(p *gait.Problem) { p.Start, p.Walker.Span = ints("2 0"), num("2") }, api.OK},
		{"a start on weak ground", func(p *gait.Problem) { p.Walker.Weight, p.Map[1].Bearing = num("2"), num("9/10") }, api.ErrArg},
		{"a start on ground just strong enough", func(p *gait.Problem) { p.Walker.Weight, p.Map[1].Bearing = num("2"), num("1") }, api.OK},
		{"a start with a lifted leg over weak ground", func(p *gait.Problem) {
			p.Walker.Weight, p.Map[1].Bearing, p.Word = num("2"), num("9/10"), word("1 3 2 3")
		}, api.OK},
		{"a goal", func(p *gait.Problem) { p.Goal = ints("2 3") }, api.OK},
		{"a goal that is not possible", func(p *gait.Problem) { p.Goal = ints("3 3") }, api.OK},
		{"a goal with a leg too few", func(p *gait.Problem) { p.Goal = ints("2") }, api.ErrArg},
		{"a goal with a leg too many", func(p *gait.Problem) { p.Goal = ints("2 3 0") }, api.ErrArg},
		{"a goal beyond the map", func(p *gait.Problem) { p.Goal = ints("4 3") }, api.ErrArg},
		{"a goal before the map", func(p *gait.Problem) { p.Goal = ints("3 -1") }, api.ErrArg},
		{"a goal without footholds", func(p *gait.Problem) { p.Goal = []int{} }, api.OK},
		{"a target behind the start", func(p *gait.Problem) { p.Target = num("-100") }, api.OK},
	} {
		p := example()
		c.alter(&p)
		expectProblemError(t, c.name, p, c.want)
	}
}

// P8.2: what makes a state possible.
func TestPossible(t *testing.T) {
	steady := gait.Problem{
		Map: holds("0, 1 5 1, 2 0 2, 4, 0 -7 0, 2 9 2/3"), Walker: walker("3 1 1 1 2 2 0 0 1"),
		Word: word("7 3 1 3 7 6"), Start: ints("0 1 2"),
	}
	for _, c := range []struct {
		state string
		want  bool
	}{
		{"0 0 1 2", true},
		{"0 2 1 0", true},
		{"0 0 4 1", true},
		{"0 0 4 5", true},
		{"0 0 0 1", false},
		{"0 0 1 1", false},
		{"0 0 1 0", false},
		{"0 1 2 3", false}, // 1 to 4: more than 2 apart
		{"0 2 5 3", true},  // 2 to 4
		{"1 0 1 2", true},
		{"1 0 1 1", true}, // the leg 2 is lifted
		{"1 0 1 3", true},
		{"1 0 0 3", false},
		{"1 0 3 1", false},
		{"1 0 5 1", false}, // the weight 2 on two feet: 1 each, and 5 bears 2/3
		{"1 0 1 5", true},  // 1 bears 1
		{"2 0 0 0", true},  // the leg 0 alone
		{"2 2 0 0", true},
		{"2 1 0 0", false},
		{"2 5 0 0", false},
		{"2 3 0 0", true},
		{"5 0 1 2", true},
		{"5 1 1 2", true},
		{"5 1 2 2", false},
		{"5 5 0 1", true},
		{"5 1 0 5", false},
		{"6 0 1 2", false},
		{"-1 0 1 2", false},
		{"9223372036854775807 0 1 2", false},
		{"-9223372036854775808 0 1 2", false},
		{"0 0 1", false},
		{"0 0 1 2 4", false},
		{"0", false},
		{"0 0 1 6", false},
		{"0 0 1 -1", false},
		{"1 0 1 6", false}, // also under a lifted leg
		{"1 0 1 -1", false},
		{"2 0 9223372036854775807 0", false},
		{"2 0 0 -9223372036854775808", false},
	} {
		expectBool(t, "Possible of "+c.state, gait.Possible(steady, place(c.state)), c.want)
		expectBool(t, "what is possible of "+c.state, canBe(steady, place(c.state)), c.want)
	}
	elsewhere := steady
	elsewhere.Start, elsewhere.Goal = nil, ints("-1")
	expectBool(t, "Possible without a start and with a wrong goal", gait.Possible(elsewhere, place("0 0 1 2")), true)
	for name, alter := range map[string]func(*gait.Problem){
		"map":    func(p *gait.Problem) { p.Map[3].Cost = num("-1") },
		"walker": func(p *gait.Problem) { p.Walker.Up = num("-1") },
		"word":   func(p *gait.Problem) { p.Word = word("7 3 1 3 7 7") },
		"legs":   func(p *gait.Problem) { p.Walker.Legs = 5 },
	} {
		wrong := steady
		wrong.Map = slices.Clone(steady.Map)
		alter(&wrong)
		expectBool(t, "Possible with a wrong "+name, gait.Possible(wrong, place("0 0 1 2")), false)
	}
}

// P8.3: steps that are just long, high and low enough, and their costs.
func TestSteps(t *testing.T) {
	for _, c := range []struct {
		name, walker, to, want string
	}{
		{"level", "2 2 1 1 9 1 1 1 1", "2", "3"},
		{"level, back", "2 2 1 1 9 1 1 1 1", "-2", "3"},
		{"too long", "2 2 1 1 9 1 1 1 1", "2001/1000", ""},
		{"too long, back", "2 2 1 1 9 1 1 1 1", "-2001/1000", ""},
		{"up", "2 2 1 1 9 1 0 10 1", "1 1", "11"},
		{"too high", "2 2 1 2 9 1 0 10 1", "1 1001/1000", ""},
		{"up, back", "2 2 1 1 9 1 1/2 10 1", "-1 1/2", "13/2"},
		{"down", "2 2 2 1 9 1 0 10 1", "1 -1", "1"},
		{"too low", "2 2 2 1 9 1 0 10 1", "1 -1001/1000", ""},
		{"on a dear foothold", "2 2 2 1 9 1 3 10 1/3", "1 1/2 0 7", "46/3"},
		{"free of all prices but that of the phase", "2 2 2 1 9 1 0 0 1/3", "1 1/2 0 0", "1/3"},
		{"not at all forward", "2 0 1 1 9 1 1 1 1", "0 1", "2"},
		{"not at all", "2 0 0 0 9 1 1 1 1", "1", ""},
		{"on strong ground", "2 2 1 1 9 2 1 1 1", "1 0 1", "2"},
		{"on weak ground", "2 2 1 1 9 2 1 1 1", "1 0 999/1000", ""},
		{"as wide as can be", "2 9 1 1 3 1 1 1 1", "3", "4"},
		{"wider", "2 9 1 1 2999/1000 1 1 1 1", "3", ""},
		{"as wide as can be, back", "2 9 1 1 3 1 1 1 1", "-3", "4"},
		{"wider, back", "2 9 1 1 2999/1000 1 1 1 1", "-3", ""},
	} {
		// The leg 0 stands at (0, -9), where no leg can step to; the leg 1 comes
		// from (0, 0), where it can also stay.
		p := gait.Problem{Map: holds("0 -9, 0 0, " + c.to), Walker: walker(c.walker), Word: word("3 1"), Start: ints("0 1")}
		moves, e := gait.Moves(p, place("1 0 1"))
		want := "0[0 1]=" + p.Walker.PerPhase.Text()
		if c.want != "" {
			want += " 0[0 2]=" + c.want
		}
		expectOK(t, "Moves: "+c.name, movesText(moves), e, want)
	}
}

// P8.3: moves that are written out.
func TestMoves(t *testing.T) {
	dear := example()
	dear.Map = holds("0 0 0 1/2, 1 0 0 1/4, 2 0 0 1/8, 3 0 3 1/16")
	dear.Walker.Weight = num("4")
	for _, c := range []struct {
		name, from, want string
		p                gait.Problem
	}{
		{"a leg is lifted", "0 0 1", "1[0 1]=1", example()},
		{"a leg is placed", "1 0 1", "2[0 1]=1", example()},
		{"a leg is placed anywhere but on the other one", "1 1 1", "2[1 0]=2 2[1 2]=2", example()},
		{"the other leg is lifted", "2 1 2", "3[1 2]=1", example()},
		{"the other leg is placed, behind the last phase", "3 1 2", "0[1 2]=1 0[3 2]=3", example()},
		{"it can be lifted but not placed", "1 3 0", "2[3 2]=3", example()},
		{"it cannot be placed", "1 0 3", "", with3(example())},
		{"staying costs what the foothold costs", "1 0 1", "2[0 1]=5/4", dear},
		{"weak ground", "1 2 2", "2[2 1]=9/4 2[2 3]=33/16", dear},
		{"ground too weak for one leg", "0 3 2", "", dear},
		{"ground strong enough for two legs", "0 2 3", "1[2 3]=1", dear},
	} {
		moves, e := gait.Moves(c.p, place(c.from))
		expectOK(t, "Moves: "+c.name, movesText(moves), e, c.want)
	}
}

// with3 returns a problem in which a leg cannot step far.
func with3(p gait.Problem) gait.Problem {
	p.Walker.Long = num("1")
	return p
}

// P8.3: the errors of Moves, in their order.
func TestMovesErrors(t *testing.T) {
	for _, c := range []string{"4 0 1", "-1 0 1", "0 0 0", "0 0 2", "0 0", "0", "0 0 1 2", "0 0 4", "0 -1 0", "2 1 1", "2 3 1"} {
		_, e := gait.Moves(example(), place(c))
		expectError(t, "Moves from "+c, e, api.ErrState)
		wrong := example()
		wrong.Goal = ints("0")
		_, e = gait.Moves(wrong, place(c))
		expectError(t, "Moves of a wrong problem from "+c, e, api.ErrArg)
	}
	wrong := example()
	wrong.Start = ints("0 0")
	_, e := gait.Moves(wrong, place("0 0 1"))
	expectError(t, "Moves with a wrong start", e, api.ErrArg)
}

// alter changes a part of a problem.
func (s *source) alter(p gait.Problem) gait.Problem {
	p.Map = slices.Clone(p.Map)
	i := s.below(len(p.Map))
	any := func() int { return s.below(len(p.Map)+2) - 1 }
	leg := s.below(len(p.Start))
	switch s.below(9) {
	case 0:
		p.Map[i].At = p.Map[s.below(len(p.Map))].At
	case 1:
		p.Map[i].Bearing = s.number()
	case 2:
		p.Map[i].Cost = s.number()
	case 3:
		for _, q := range []*exact.Q{&p.Walker.Long, &p.Walker.Up, &p.Walker.Down, &p.Walker.Span, &p.Walker.Weight, &p.Walker.PerLength, &p.Walker.PerRise, &p.Walker.PerPhase} {
			if s.chance(4) {
				*q = s.one("0 1 1/2 2 -1")
			}
		}
	case 4:
		p.Walker.Legs = s.below(6)
	case 5:
		p.Word = with(p.Word, s.below(len(p.Word)), uint8(s.below(16)))
	case 6, 7:
		p.Start = with(p.Start, leg, any())
	case 8:
		p.Goal = s.footholds(len(p.Start), len(p.Map))
		p.Goal = with(p.Goal, leg, any())
		p.Goal = p.Goal[:len(p.Goal)-s.below(2)]
	}
	return p
}

// P8.2, P8.3: problems that look random, and such that are altered in one part.
func TestRandomProblems(t *testing.T) {
	s := source(820)
	valid, wrong, many := 0, 0, 0
	for range 400 {
		p := s.problem()
		if s.chance(2) {
			p = s.alter(p)
		}
		if !isProblem(p) {
			wrong++
			expectProblemError(t, problemText(p), p, api.ErrArg)
			continue
		}
		valid++
		expectError(t, "CheckProblem of "+problemText(p), gait.CheckProblem(p), api.OK)
		n := len(p.Map)
		for range 10 {
			from := gait.State{Phase: s.below(len(p.Word)+2) - 1, Holds: s.footholds(p.Walker.Legs, n)}
			if s.chance(8) {
				from.Holds[0] = s.below(n+2) - 1
			}
			name := placeText(from) + " of " + problemText(p)
			is := canBe(p, from)
			expectBool(t, "Possible for "+name, gait.Possible(p, from), is)
			moves, e := gait.Moves(p, from)
			if !is {
				expectError(t, "Moves from "+name, e, api.ErrState)
				continue
			}
			expectOK(t, "Moves from "+name, movesText(moves), e, movesText(movesFrom(p, from)))
			if len(moves) > 1 {
				many++
			}
		}
	}
	if valid < 200 || wrong < 50 || many < 100 {
		t.Error("valid problems, wrong ones, states with several moves:", valid, wrong, many)
	}
}

// P8.3: a map and a word that are as great as can be.
func TestManyMoves(t *testing.T) {
	p := gait.Problem{
		Map: row(api.MaxHolds), Walker: walker("4 100 0 0 100 1 1 0 1"),
		Word: word(strings.Repeat("15 7 ", api.MaxWord/2)), Start: ints("0 1 2 63"),
	}
	moves, e := gait.Moves(p, place("15 0 1 2 63"))
	expectError(t, "Moves", e, api.OK)
	var want []gait.Move
	for h := 3; h < api.MaxHolds; h++ {
		want = append(want, gait.Move{To: gait.State{Holds: []int{0, 1, 2, h}}, Cost: exact.Int(int64(64 - h))})
	}
	expect(t, "Moves", movesText(moves), movesText(want))
}
