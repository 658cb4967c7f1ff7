package team_test

import (
	"slices"
	"strings"
	"testing"

	"amble/api"
	"amble/exact"
	"amble/hull"
	"amble/team"
)

// P12.4 and P12.9: secure shares.

// expectSecure compares what Secure gives with shares and a cost, or with
// nothing.
func expectSecure(t *testing.T, l []team.Carrier, w team.Load, want string) {
	t.Helper()
	shares, cost, e := team.Secure(l, w)
	expectShares(t, "Secure of "+caseText(l, w), shares, cost, e, want)
}

// P12.4: Secure, where the shares are written out.
func TestSecure(t *testing.T) {
	for name, want := range map[string]string{
		// The load is over the carrier 1: without another one it carries all.
		"0 0 10 1 9, 1 0 10 2 9, 2 0 10 1 9; 8 1":        "4 0 4 for 8",
		"0 0 10 1 4, 1 0 10 2 8, 2 0 10 1 4; 8 1":        "4 0 4 for 8",
		"0 0 10 1 4, 1 0 10 2 7, 2 0 10 1 4; 8 1":        "7/2 1 7/2 for 9",
		"0 0 10 1 1, 1 0 10 2 8, 2 0 10 1 4; 8 1":        "",
		"0 0 10 1 1, 1 0 10 2 3, 2 0 10 1 9; 8 1":        "",
		"0 0 10 1 5/2, 1 0 10 2 11/2, 2 0 10 1 5/2; 8 1": "5/2 3 5/2 for 11",
		"0 0 10 1 5/2, 1 0 10 2 2, 2 0 10 1 5/2; 8 1":    "",
		"0 0 10 1 9, 1 0 7 2 9, 2 0 10 1 9; 8 1":         "",
		"0 0 3 1 9, 1 0 10 2 9, 2 0 10 1 9; 8 1":         "",
		"0 0 10 1 9, 1 0 10 2 9, 2 0 10 1 9; 8 3/2":      "",
		// Of several best ones the least.
		"0 0 10 1 4, 1 0 10 1 8, 2 0 10 1 4; 8 1": "0 8 0 for 8",
		"0 0 10 1 3, 1 0 10 1 8, 2 0 10 1 3; 8 1": "1 6 1 for 8",
		// All are at one place.
		"5 0 10 1 2, 5 0 10 2 4, 5 0 10 3 1; 8 5":    "5 3 0 for 11",
		"5 0 10 1 4, 5 0 10 2 2, 5 0 10 3 1; 8 5":    "3 5 0 for 13",
		"5 0 10 1 4, 5 0 10 2 4, 5 0 10 3 4; 8 5":    "8 0 0 for 8",
		"5 0 10 1 4, 5 2 10 2 4, 5 1 10 3 4; 8 5":    "5 2 1 for 12",
		"5 6 10 1 4, 5 2 10 2 4, 5 0 10 3 4; 8 5":    "6 2 0 for 10",
		"5 0 10 1 0, 5 0 10 2 0, 5 0 10 3 0; 8 5":    "",
		"5 0 10 1 999, 5 0 10 2 999, 5 3 4 3 0; 8 5": "5 0 3 for 14",
		// Two, and one.
		"5 0 10 1 4, 5 0 10 2 4; 8 5":    "4 4 for 12",
		"5 0 10 1 9, 5 0 10 2 9; 8 5":    "8 0 for 8",
		"5 0 10 2 9, 5 0 10 1 9; 8 5":    "0 8 for 8",
		"5 0 10 1 9, 5 0 10 1 9; 8 5":    "0 8 for 8",
		"5 0 10 1 4, 5 0 10 2 3; 8 5":    "",
		"5 0 10 1 5, 5 0 10 2 3; 8 5":    "3 5 for 13",
		"5 0 7 1 9, 5 0 10 2 9; 8 5":     "",
		"5 0 10 1 9, 6 0 10 2 9; 8 5":    "",
		"5 0 10 1 9, 6 0 10 2 9; 8 11/2": "",
		"5 0 10 1 99; 8 5":               "",
		"5 8 8 0 99; 8 5":                "",
	} {
		l, w := parted(name)
		expectSecure(t, l, w, want)
	}
}

// P12.4: no more than MaxSecure carriers.
func TestSecureLimit(t *testing.T) {
	for n := api.MaxSecure + 1; n <= api.MaxTeam; n++ {
		for _, c := range []string{"0 0 10 1 99", "0 0 0 1 99"} {
			shares, cost, e := team.Secure(times(n, carriers(c)[0]), load("8 0"))
			expectFailed(t, "Secure of many", priced(shares, cost), e, api.ErrLimit)
		}
	}
	expectSecure(t, times(api.MaxSecure, carriers("0 0 10 1 99")[0]), load("8 0"), "0 0 8 for 8")
}

// conditions are rows for the shares of three carriers, while they are
// collected.
type conditions []hull.Row

// add says that a sum of shares, with these factors, is not below a number.
func (l *conditions) add(factors [3]int64, number exact.Q) {
	var a []exact.Q
	for _, f := range factors {
		a = append(a, exact.Int(-f))
	}
	*l = append(*l, hull.Row{A: a, B: number.Neg()})
}

// bound is a number that a share must not be above, or not below: a constant,
// and a share with a factor.
type bound struct {
	number exact.Q
	share  int
	factor int64
}

// order says that one bound is not above another one.
func (l *conditions) order(low, high bound) {
	var factors [3]int64
	factors[high.share] += high.factor
	factors[low.share] -= low.factor
	l.add(factors, low.number.Sub(high.number))
}

// near says that there are shares without a carrier near to those that are
// asked for. What the second of the others carries is what the first leaves; if
// they are at different places, the load says what they carry.
func (l *conditions) near(c []team.Carrier, w team.Load, who int) {
	i, k := (who+1)%3, (who+2)%3
	low := []bound{{number: c[i].Low}, {number: w.Weight.Sub(c[k].High)}, {c[i].Jump.Neg(), i, 1}, {w.Weight.Sub(c[k].Jump), k, -1}}
	high := []bound{{number: c[i].High}, {number: w.Weight.Sub(c[k].Low)}, {c[i].Jump, i, 1}, {w.Weight.Add(c[k].Jump), k, -1}}
	if c[i].At.Cmp(c[k].At) != 0 {
		only := bound{number: over(w.Weight.Mul(w.At.Sub(c[k].At)), c[i].At.Sub(c[k].At))}
		low, high = append(low, only), append(high, only)
	} else if c[i].At.Cmp(w.At) != 0 {
		l.add([3]int64{}, num("1"))
	}
	for _, a := range low {
		for _, b := range high {
			l.order(a, b)
		}
	}
}

// securest returns the best secure shares of three carriers, by a linear
// program in which there are no other shares.
func securest(l []team.Carrier, w team.Load) string {
	p, _ := team.System(l, w)
	rows := conditions(p.Rows)
	for who := range l {
		rows.near(l, w, who)
	}
	p.Rows = rows
	cost, _, _, _, e := hull.Bounds(costs(l), p)
	if e != api.OK {
		return ""
	}
	p.Rows = append(p.Rows, hull.Row{A: costs(l), B: cost})
	shares, _ := hull.Least(p)
	return priced(shares, cost)
}

// safe returns three carriers with a load that often can be held without any
// one of them.
func (s *source) safe() ([]team.Carrier, team.Load) {
	l := s.carriers(3)
	w := team.Load{Weight: s.one("1 2 3 5 8"), At: s.one("0 1 1/2")}
	for i := range l {
		if s.chance(2) {
			l[i].Low = exact.Q{}
		}
		l[i].High = l[i].Low.Add(s.one("2 5 9 9"))
		l[i].At = w.At
	}
	if s.chance(3) {
		l[0].At, l[1].At = w.At.Sub(s.one("1 2 1/3")), w.At.Add(s.one("1 1/2 3"))
	}
	if s.chance(8) {
		l[s.below(3)].At = s.one("0 1 2")
	}
	s.shuffle(l)
	return l, w
}

func (s *source) shuffle(l []team.Carrier) {
	for i := len(l) - 1; i > 0; i-- {
		k := s.below(i + 1)
		l[i], l[k] = l[k], l[i]
	}
}

// isSecure reports whether there are shares without each carrier near to these.
func isSecure(l []team.Carrier, w team.Load, shares []exact.Q) bool {
	for who := range l {
		others := slices.Clone(l)
		for i, c := range l {
			others[i].Low = exact.Max(c.Low, shares[i].Sub(c.Jump))
			others[i].High = exact.Min(c.High, shares[i].Add(c.Jump))
			if i != who && others[i].Low.Cmp(others[i].High) > 0 {
				return false
			}
		}
		if cheapest(left(others, who), w) == "" {
			return false
		}
	}
	return true
}

// P12.4 and P12.9: Secure, compared with a linear program that is written a
// second time, and with shares without each carrier that are found by trying.
func TestSecureBySecondProgram(t *testing.T) {
	s := source(1204)
	found, none, dearer := 0, 0, 0
	for range 500 {
		l, w := s.safe()
		want := securest(l, w)
		expectSecure(t, l, w, want)
		shares, _, e := team.Secure(l, w)
		if e != api.OK {
			none++
			continue
		}
		found++
		if !holds(l, w, shares) || !isSecure(l, w, shares) {
			t.Error("Secure of", caseText(l, w), "gives", numsText(shares))
		}
		if best, _, _ := team.Share(l, w); numsText(best) != numsText(shares) {
			dearer++
			if isSecure(l, w, best) {
				t.Error("Secure of", caseText(l, w), "does not give", numsText(best))
			}
		}
	}
	if found < 100 || none < 100 || dearer < 50 {
		t.Error("only", found, "teams were secure,", none, "were not, and", dearer, "were dearer for it")
	}
}

// P12.9: with two carriers, each must be able to carry all.
func TestSecurePairs(t *testing.T) {
	s := source(1205)
	found := 0
	for range 500 {
		l, w := s.carriers(2), team.Load{Weight: s.one("1 2 3"), At: s.one("0 1")}
		l[0].At, l[1].At = w.At, w.At
		if s.chance(3) {
			l[s.below(2)].At = num("1/2")
		}
		shares, _, e := team.Secure(l, w)
		low := exact.Max(l[0].Low, w.Weight.Sub(l[1].High), w.Weight.Sub(l[0].Jump))
		high := exact.Min(l[0].High, w.Weight.Sub(l[1].Low), l[1].Jump)
		canAll := l[0].High.Cmp(w.Weight) >= 0 && l[1].High.Cmp(w.Weight) >= 0 && l[0].Low.Cmp(w.Weight) <= 0 && l[1].Low.Cmp(w.Weight) <= 0
		if want := canAll && low.Cmp(high) <= 0 && l[0].At.Cmp(l[1].At) == 0; want != (e == api.OK) {
			t.Error("Secure of", caseText(l, w), "has the error", e)
		}
		if e != api.OK {
			continue
		}
		found++
		first := low
		if l[0].Cost.Cmp(l[1].Cost) < 0 {
			first = high
		}
		expect(t, "Secure of "+caseText(l, w), numsText(shares), strings.Join([]string{first.Text(), w.Weight.Sub(first).Text()}, " "))
	}
	if found < 50 {
		t.Error("only", found, "pairs were secure")
	}
}
