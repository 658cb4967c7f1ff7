package team_test

import (
	"math"
	"slices"
	"testing"

	"amble/api"
	"amble/exact"
	"amble/team"
)

// P12.6 and P12.11: nets and their rounds.

// pair is the net of the chapter's third example.
func pair() team.Net { return net("2 1/3: 0 1, 1 0") }

// complete returns the net of so many members each of whom hears all others.
func complete(size int, weight string) team.Net {
	n := team.Net{Size: size, Weight: num(weight)}
	for from := range size {
		for to := range size {
			if from != to {
				n.Links = append(n.Links, [2]int{from, to})
			}
		}
	}
	return n
}

func wrongNets() map[string]team.Net {
	full := complete(6, "1/5")
	all := map[string]team.Net{
		"nothing":                                team.Net{},
		"one link more than MaxLinks":            full,
		"Size 0":                                 net("0 1:"),
		"Size below 0":                           net("-1 1:"),
		"the least Size":                         {Size: math.MinInt, Weight: num("1")},
		"one member more than MaxTeam":           net("7 1:"),
		"the greatest Size":                      {Size: math.MaxInt, Weight: num("1")},
		"a link of one member":                   net("1 1: 0 0"),
		"a link to itself":                       net("3 1: 0 1, 2 2"),
		"a link to nobody":                       net("3 1: 0 3"),
		"a link from nobody":                     net("3 1: 3 0"),
		"a link to below 0":                      net("3 1: 0 -1"),
		"a link from below 0":                    net("3 1: -1 0"),
		"a link to the end of int":               {Size: 2, Links: [][2]int{{0, math.MaxInt}}, Weight: num("1")},
		"a link from the end of int":             {Size: 2, Links: [][2]int{{math.MinInt, 0}}, Weight: num("1")},
		"a link twice":                           net("3 1/9: 0 1, 1 2, 0 1"),
		"a weight of 0":                          net("3 0: 0 1"),
		"a weight of 0 without links":            net("3 0:"),
		"a weight below 0":                       net("3 -1/3: 0 1"),
		"a weight above 1":                       net("3 1001/1000: 0 1"),
		"weights that add up to a little more":   net("4 334/1000: 0 3, 1 3, 2 3"),
		"weights that add up to more at the end": net("4 1/2: 0 1, 0 2, 0 3, 1 3, 2 3"),
		"weights that add up to 6/5":             complete(6, "6/25"),
	}
	all["one link more than MaxLinks"] = team.Net{Size: 6, Weight: num("1/50"), Links: append(full.Links, [2]int{0, 1})}
	return all
}

// P12.6: CheckNet.
func TestCheckNet(t *testing.T) {
	for _, n := range []team.Net{
		pair(), net("1 1:"), net("1 1000:"), net("6 1000:"), net("6 1: 5 0, 0 5"), net("4 1/3: 0 3, 1 3, 2 3"),
		net("3 1/2: 0 1, 1 0, 0 2, 2 0, 1 2, 2 1"), complete(6, "1/5"), complete(6, "1/1000000"), net("3 1: 0 1, 0 2, 2 0"),
	} {
		expectError(t, "CheckNet of "+netText(n), team.CheckNet(n), api.OK)
	}
	for name, n := range wrongNets() {
		expectError(t, "CheckNet with "+name, team.CheckNet(n), api.ErrArg)
	}
}

// A net that is not valid comes first, whatever else is wrong.
func TestInvalidNets(t *testing.T) {
	for name, n := range wrongNets() {
		x := make([]exact.Q, max(0, min(n.Size, 9)))
		for _, lost := range [][]int{nil, {-1}, {99}} {
			m, e := team.Matrix(n, lost)
			expectFailed(t, "Matrix with "+name, listsText(m), e, api.ErrArg)
			after, e := team.Round(n, x, lost)
			expectFailed(t, "Round with "+name, numsText(after), e, api.ErrArg)
			after, e = team.Rounds(n, x, [][]int{lost})
			expectFailed(t, "Rounds with "+name, numsText(after), e, api.ErrArg)
		}
		after, e := team.Rounds(n, nil, nil)
		expectFailed(t, "Rounds with "+name, numsText(after), e, api.ErrArg)
		for _, count := range []int{-1, 0, 1, 17} {
			c, lost, e := team.Worst(n, count, count)
			expectFailed(t, "Worst with "+name, worstText(c, lost), e, api.ErrArg)
		}
	}
}

// P12.6: Matrix, where it is written out.
func TestMatrix(t *testing.T) {
	three := "3 1/4: 0 1, 2 1, 1 0, 0 2"
	for _, c := range []struct{ net, lost, want string }{
		{"2 1/3: 0 1, 1 0", "-", "2/3 1/3, 1/3 2/3"},
		{"2 1/3: 0 1, 1 0", "0", "2/3 1/3, 0 1"},
		{"2 1/3: 0 1, 1 0", "1", "1 0, 1/3 2/3"},
		{"2 1/3: 0 1, 1 0", "1 0", "1 0, 0 1"},
		{"2 1/3: 0 1, 1 0", "0 0 0", "2/3 1/3, 0 1"},
		{three, "-", "3/4 1/4 0, 1/4 1/2 1/4, 1/4 0 3/4"},
		{three, "1", "3/4 1/4 0, 1/4 3/4 0, 1/4 0 3/4"},
		{three, "3 0 3", "3/4 1/4 0, 0 3/4 1/4, 0 0 1"},
		{three, "0 1 2 3", "1 0 0, 0 1 0, 0 0 1"},
		{"1 5:", "-", "1"},
		{"2 1: 0 1, 1 0", "-", "0 1, 1 0"},
		{"4 1/3: 0 3, 1 3, 2 3", "-", "1 0 0 0, 0 1 0 0, 0 0 1 0, 1/3 1/3 1/3 0"},
	} {
		m, e := team.Matrix(net(c.net), ints(c.lost))
		expectOK(t, "Matrix of "+c.net+" without "+c.lost, listsText(m), e, c.want)
	}
}

// P12.6: Round, Rounds, where the numbers are written out.
func TestRounds(t *testing.T) {
	for _, c := range []struct{ net, x, lost, want string }{
		{"2 1/3: 0 1, 1 0", "0 9", "-", "3 6"},
		{"2 1/3: 0 1, 1 0", "0 9", "0", "3 9"},
		{"2 1/3: 0 1, 1 0", "0 9", "1", "0 6"},
		{"2 1/3: 0 1, 1 0", "0 9", "1 0 1", "0 9"},
		{"2 1/3: 0 1, 1 0", "0 9", "", "0 9"},
		{"2 1/3: 0 1, 1 0", "0 9", "-, -", "4 5"},
		{"2 1/3: 0 1, 1 0", "0 9", "0, -, 1", "5 19/3"},
		{"3 1: 0 1, 1 2, 2 0", "1 2 3", "-, -", "2 3 1"},
		{"3 1/2: 0 1, 2 1", "4 100 -6", "-", "4 -1 -6"},
		{"1 7:", "5/3", "-, -, -", "5/3"},
	} {
		x, lost := nums(c.x), sets(c.lost)
		after, e := team.Rounds(net(c.net), x, lost)
		expectOK(t, "Rounds of "+c.net+" with "+c.lost, numsText(after), e, c.want)
		if len(lost) == 1 {
			after, e = team.Round(net(c.net), x, lost[0])
			expectOK(t, "Round of "+c.net+" with "+c.lost, numsText(after), e, c.want)
		}
	}
}

// P12.6: links that there are not, and numbers of another length, in order.
func TestRoundErrors(t *testing.T) {
	x := nums("1 2")
	for _, lost := range [][]int{{2}, {0, 1, 2}, {-1}, {0, -1}, {math.MaxInt}, {math.MinInt}} {
		m, e := team.Matrix(pair(), lost)
		expectFailed(t, "Matrix without "+setText(lost), listsText(m), e, api.ErrRange)
		after, e := team.Round(pair(), x, lost)
		expectFailed(t, "Round without "+setText(lost), numsText(after), e, api.ErrRange)
		for _, rounds := range [][][]int{{lost}, {nil, lost}, {lost, nil}, {{0}, {1}, lost}} {
			after, e = team.Rounds(pair(), x, rounds)
			expectFailed(t, "Rounds without "+setsText(rounds), numsText(after), e, api.ErrRange)
		}
		for _, wrong := range [][]exact.Q{nil, nums("1"), nums("1 2 3")} {
			after, e = team.Round(pair(), wrong, lost)
			expectFailed(t, "Round of "+numsText(wrong), numsText(after), e, api.ErrArg)
			after, e = team.Rounds(pair(), wrong, [][]int{nil, lost})
			expectFailed(t, "Rounds of "+numsText(wrong), numsText(after), e, api.ErrArg)
			after, e = team.Rounds(pair(), wrong, nil)
			expectFailed(t, "no Rounds of "+numsText(wrong), numsText(after), e, api.ErrArg)
		}
	}
	if _, e := team.Matrix(net("3 1:"), []int{0}); e != api.ErrRange {
		t.Error("Matrix without a link of none has the error", e)
	}
}

// heard returns the members' numbers after a round, by the chapter's words.
func heard(n team.Net, x []exact.Q, lost []int) []exact.Q {
	after := slices.Clone(x)
	for i, link := range n.Links {
		from, to := link[0], link[1]
		if !slices.Contains(lost, i) {
			after[to] = after[to].Add(n.Weight.Mul(x[from].Sub(x[to])))
		}
	}
	return after
}

// P12.6 and P12.11: rounds are what the chapter says, and what their matrices
// make; all numbers stay between the least and the greatest one; the spread
// shrinks as the coefficient says.
func TestAgreeing(t *testing.T) {
	s := source(1207)
	shrunk := 0
	for range 500 {
		n := s.net()
		x := s.numbers(n.Size)
		lost := s.rounds(n, s.below(6))
		want, product := x, identity(n.Size)
		for _, links := range lost {
			before := want
			want = heard(n, want, links)
			m, e := team.Matrix(n, links)
			expectError(t, "Matrix", e, api.OK)
			after, e := team.Round(n, before, links)
			expectOK(t, "Round of "+netText(n), numsText(after), e, numsText(want))
			applied, _ := exact.Apply(m, before)
			expect(t, "Matrix of "+netText(n)+" times numbers", numsText(applied), numsText(want))
			if exact.Min(after...).Cmp(exact.Min(before...)) < 0 || exact.Max(after...).Cmp(exact.Max(before...)) > 0 {
				t.Error("Round of", numsText(before), "gives", numsText(after))
			}
			product, _ = exact.Mul(m, product)
		}
		got, e := team.Rounds(n, x, lost)
		expectOK(t, "Rounds of "+netText(n), numsText(got), e, numsText(want))
		c, e := team.Coefficient(product)
		expectError(t, "Coefficient", e, api.OK)
		if team.Spread(got).Cmp(c.Mul(team.Spread(x))) > 0 {
			t.Error("the spread", team.Spread(got).Text(), "is above", c.Text(), "times", team.Spread(x).Text())
		}
		if c.Cmp(num("1")) < 0 {
			shrunk++
		}
	}
	if shrunk < 100 {
		t.Error("only", shrunk, "spreads shrank for certain")
	}
}

// P12.11: the coefficient is reached by numbers of two kinds.
func TestCoefficientIsReached(t *testing.T) {
	s := source(1208)
	for range 200 {
		n := s.net()
		m, _ := team.Matrix(n, s.lost(n))
		c, e := team.Coefficient(m)
		expectError(t, "Coefficient", e, api.OK)
		var most exact.Q
		for mask := range 1 << n.Size {
			var x []exact.Q
			for i := range n.Size {
				x = append(x, exact.Int(int64(mask>>i&1)))
			}
			after, _ := exact.Apply(m, x)
			most = exact.Max(most, team.Spread(after))
		}
		expect(t, "the greatest spread with "+listsText(m), most.Text(), c.Text())
	}
}
