package team_test

import (
	"math"
	"math/bits"
	"slices"
	"testing"

	"amble/api"
	"amble/exact"
	"amble/team"
)

// P12.7 and P12.11: spreads, coefficients, and the worst patterns of losses.

// P12.7: Spread.
func TestSpread(t *testing.T) {
	for x, want := range map[string]string{
		"": "0", "7": "0", "-7/2": "0", "1 2": "1", "2 1": "1", "-3 5 1/2": "8", "5 5 5": "0", "-9 -3 -4": "6", "1/3 1/2 1/4 1/5 1/6 1/7 1/8": "3/8",
	} {
		expect(t, "Spread of "+x, team.Spread(nums(x)).Text(), want)
	}
}

// P12.7: Coefficient.
func TestCoefficient(t *testing.T) {
	for m, want := range map[string]string{
		"":                             "0",
		"1 2 3":                        "0",
		"1 0, 0 1":                     "1",
		"2/3 1/3, 1/3 2/3":             "1/3",
		"1/2 1/2, 1/2 1/2":             "0",
		"1 0 0, 0 1 0, 0 0 1":          "1",
		"1 2, 3 5, 3 4":                "5/2",
		"-1 2, 3 -5":                   "11/2",
		"7, 3, -1/2":                   "15/4",
		"0 0 0, 0 0 1/3":               "1/6",
		"1 1, 1 1, 1 1, 1 2":           "1/2",
		"1 2, 1 1, 1 1, 1 1":           "1/2",
		"9 0 0 0 0 0 0, 0 0 0 0 0 0 9": "9",
	} {
		c, e := team.Coefficient(lists(m))
		expectOK(t, "Coefficient of "+m, c.Text(), e, want)
	}
	for _, m := range []exact.Mat{{nil}, {nil, {}}, {{}, {}, nil}} {
		c, e := team.Coefficient(m)
		expectOK(t, "Coefficient of empty rows", c.Text(), e, "0")
	}
	for _, m := range []string{"1, 1 2", "1 2, 1", "1 2, 3 4, 5", "1 2, 3 4, 5 6 7", "1 2, 3, 4 5"} {
		c, e := team.Coefficient(lists(m))
		expectError(t, "Coefficient of "+m, e, api.ErrArg)
		expect(t, "Coefficient of "+m, c.Text(), "0")
	}
	if _, e := team.Coefficient(exact.Mat{nil, nums("1")}); e != api.ErrArg {
		t.Error("Coefficient of an empty row and another one has the error", e)
	}
}

// worstText returns the text of a coefficient with its pattern; nothing if both
// are zero.
func worstText(c exact.Q, lost [][]int) string {
	if c.Sign() == 0 && len(lost) == 0 {
		return ""
	}
	return c.Text() + ": " + setsText(lost)
}

func identity(n int) exact.Mat {
	m := make(exact.Mat, n)
	for i := range m {
		m[i] = make([]exact.Q, n)
		m[i][i] = num("1")
	}
	return m
}

// P12.7: Worst, where the pattern is written out.
func TestWorst(t *testing.T) {
	for _, c := range []struct {
		net            string
		losses, rounds int
		want           string
	}{
		{"2 1/3: 0 1, 1 0", 0, 1, "1/3: -"},
		{"2 1/3: 0 1, 1 0", 1, 1, "2/3: 0"},
		{"2 1/3: 0 1, 1 0", 2, 1, "1: 0 1"},
		{"2 1/3: 0 1, 1 0", 3, 1, "1: 0 1"},
		{"2 1/3: 0 1, 1 0", math.MaxInt, 2, "1: 0 1, 0 1"},
		{"2 1/3: 0 1, 1 0", 1, 2, "4/9: 0, 0"},
		{"2 1/3: 0 1, 1 0", 0, 3, "1/27: -, -, -"},
		{"2 1/3: 0 1, 1 0", 0, 0, "1: "},
		{"2 1/3: 0 1, 1 0", 5, 0, "1: "},
		{"2 1/3: 0 1, 1 0", 0, 16, "1/43046721: -, -, -, -, -, -, -, -, -, -, -, -, -, -, -, -"},
		{"2 1: 0 1, 1 0", 1, 3, "1: -, -, -"},
		{"2 1/2: 0 1, 1 0", 1, 2, "1/4: 0, 0"},
		{"2 1/2: 0 1", 1, 12, "1: 0, 0, 0, 0, 0, 0, 0, 0, 0, 0, 0, 0"},
		{"3 1/2:", 7, 3, "1: -, -, -"},
		{"1 1:", 1, 2, "0: -, -"},
		{"1 1:", 0, 0, ""},
		{"3 1/2: 0 1, 1 2, 2 0", 0, 1, "1/2: -"},
		{"3 1/2: 0 1, 1 2, 2 0", 1, 1, "1: 0"},
		{"3 1/2: 2 0, 1 0, 0 1, 2 1, 0 2, 1 2", 0, 1, "1/2: -"},
		{"3 1/2: 2 0, 1 0, 0 1, 2 1, 0 2, 1 2", 1, 1, "1/2: -"},
		{"3 1/3: 2 0, 1 0, 0 1, 2 1, 0 2, 1 2", 0, 1, "0: -"},
		{"3 1/3: 2 0, 1 0, 0 1, 2 1, 0 2, 1 2", 1, 1, "1/3: 0"},
		{"3 1/3: 2 0, 1 0, 0 1, 2 1, 0 2, 1 2", 2, 1, "2/3: 0 1"},
	} {
		got, lost, e := team.Worst(net(c.net), c.losses, c.rounds)
		expectOK(t, "Worst of "+c.net, worstText(got, lost), e, c.want)
	}
}

// P12.7: the errors of Worst, in order.
func TestWorstErrors(t *testing.T) {
	full := complete(6, "1/5")
	for _, c := range []struct {
		net            team.Net
		losses, rounds int
		want           api.Errno
	}{
		{pair(), -1, 1, api.ErrRange},
		{pair(), math.MinInt, 0, api.ErrRange},
		{pair(), 0, -1, api.ErrRange},
		{pair(), 0, 17, api.ErrRange},
		{pair(), 0, math.MaxInt, api.ErrRange},
		{pair(), 0, math.MinInt, api.ErrRange},
		{full, 30, 17, api.ErrRange},
		{full, 30, -1, api.ErrRange},
		{full, -1, 16, api.ErrRange},
		{pair(), 2, 7, api.ErrLimit},
		{pair(), 1, 8, api.ErrLimit},
		{pair(), 1, 16, api.ErrLimit},
		{pair(), math.MaxInt, 16, api.ErrLimit},
		{net("2 1: 0 1"), 1, 13, api.ErrLimit},
		{full, 30, 1, api.ErrLimit},
		{full, 30, 16, api.ErrLimit},
		{full, math.MaxInt, 1, api.ErrLimit},
		{full, 3, 1, api.ErrLimit},
		{full, 2, 2, api.ErrLimit},
		{full, 1, 3, api.ErrLimit},
		{team.Net{Size: 6, Links: full.Links[:13], Weight: num("1/5")}, 13, 1, api.ErrLimit},
		{team.Net{Size: 6, Links: full.Links[:13], Weight: num("1/5")}, 7, 1, api.ErrLimit},
	} {
		got, lost, e := team.Worst(c.net, c.losses, c.rounds)
		expectFailed(t, "Worst of "+netText(c.net), worstText(got, lost), e, c.want)
	}
}

// P12.7: MaxTries patterns, and nearly as many.
func TestWorstAtTheLimit(t *testing.T) {
	full := complete(6, "1/5")
	for _, c := range []struct {
		net            team.Net
		losses, rounds int
		want           string
	}{
		{full, 30, 0, "1: "},
		{full, 0, 16, worstText(over(num("1"), num("152587890625")), make([][]int, 16))},
		{team.Net{Size: 6, Links: full.Links[:12], Weight: num("1/5")}, 12, 1, ""},
		{team.Net{Size: 6, Links: full.Links[:13], Weight: num("1/5")}, 6, 1, ""},
		{net("4 1/3: 0 1, 1 2, 2 0, 1 0, 2 1, 0 2"), 6, 2, ""},
		{net("3 1/3: 0 1, 1 2, 2 0"), 3, 4, ""},
		{net("4 1/3: 0 1, 1 2, 2 3, 3 0, 1 0, 2 1, 3 2"), 1, 4, ""},
		{net("2 1/4: 0 1"), 1, 12, ""},
	} {
		got, lost, e := team.Worst(c.net, c.losses, c.rounds)
		want := c.want
		if want == "" {
			want = tried(c.net, c.losses, c.rounds)
		}
		expectOK(t, "Worst of "+netText(c.net), worstText(got, lost), e, want)
	}
}

// masks returns the sets of at most so many of the links of a net, as masks, in
// order.
func masks(links, losses int) []int {
	var l []int
	for mask := range 1 << links {
		if bits.OnesCount(uint(mask)) <= losses {
			l = append(l, mask)
		}
	}
	return l
}

func setOf(mask int) []int {
	var l []int
	for i := range 64 {
		if mask>>i&1 == 1 {
			l = append(l, i)
		}
	}
	return l
}

// tried returns the worst pattern and its coefficient by trying all.
func tried(n team.Net, losses, rounds int) string {
	all := masks(len(n.Links), losses)
	count := 1
	for range rounds {
		count *= len(all)
	}
	var worst exact.Q
	var found [][]int
	for k := range count {
		var lost [][]int
		for rest := k; len(lost) < rounds; rest /= len(all) {
			lost = append(lost, setOf(all[rest%len(all)]))
		}
		slices.Reverse(lost)
		product := identity(n.Size)
		for _, links := range lost {
			m, _ := team.Matrix(n, links)
			product, _ = exact.Mul(m, product)
		}
		if c, _ := team.Coefficient(product); k == 0 || c.Cmp(worst) > 0 {
			worst, found = c, lost
		}
	}
	return worstText(worst, found)
}

// P12.7 and P12.11: Worst, compared with trying all; no spread is above it.
func TestWorstByTrying(t *testing.T) {
	s := source(1209)
	some := 0
	for range 150 {
		n, losses, rounds := s.small(5), s.below(3), s.below(4)
		if rounds > 2 && (losses > 1 || len(n.Links) > 4) {
			rounds = 2
		}
		c, lost, e := team.Worst(n, losses, rounds)
		expectOK(t, "Worst of "+netText(n), worstText(c, lost), e, tried(n, losses, rounds))
		x := s.numbers(n.Size)
		var others [][]int
		for range rounds {
			links := s.lost(n)
			others = append(others, links[:min(losses, len(links))])
		}
		after, e := team.Rounds(n, x, others)
		expectError(t, "Rounds", e, api.OK)
		if team.Spread(after).Cmp(c.Mul(team.Spread(x))) > 0 {
			t.Error("the spread after", setsText(others), "is above the worst one of", netText(n))
		}
		if c.Cmp(num("1")) < 0 && rounds > 0 {
			some++
		}
	}
	if some < 20 {
		t.Error("only", some, "nets come to agree for certain")
	}
}
