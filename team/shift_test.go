package team_test

import (
	"testing"

	"amble/api"
	"amble/exact"
	"amble/team"
)

// P12.5 and P12.10: shifts from shares to others.

// P12.5: Shift, where the steps are written out.
func TestShift(t *testing.T) {
	cases := []struct{ from, to, rate, want string }{
		{"6 0 6", "2 8 2", "1 3 2", "5 2 5, 4 4 4, 3 6 3, 2 8 2"},
		{"2 8 2", "6 0 6", "1 3 2", "3 6 3, 4 4 4, 5 2 5, 6 0 6"},
		{"6 0 6", "2 8 2", "4 8 4", "2 8 2"},
		{"6 0 6", "2 8 2", "100 8 5", "2 8 2"},
		{"6 0 6", "2 8 2", "4 799/100 4", "4 4 4, 2 8 2"},
		{"6 0 6", "2 8 2", "100 100 2", "4 4 4, 2 8 2"},
		{"6 0 6", "2 8 2", "3/2 8 8", "14/3 8/3 14/3, 10/3 16/3 10/3, 2 8 2"},
		{"6 0 6", "5 2 5", "1/2 1 1", "11/2 1 11/2, 5 2 5"},
		{"6 0 6", "6 0 6", "1 1 1", ""},
		{"11/2 1 11/2", "11/2 1 11/2", "1/1000000 1/1000000 1/1000000", ""},
	}
	for _, c := range cases {
		steps, e := team.Shift(trio(), load("12 1"), nums(c.from), nums(c.to), nums(c.rate))
		expectOK(t, "Shift from "+c.from+" to "+c.to+" with "+c.rate, listsText(steps), e, c.want)
	}
}

// P12.5: arguments that are not valid.
func TestShiftErrors(t *testing.T) {
	for name, c := range map[string]struct{ from, to, rate string }{
		"no rates":                    {"6 0 6", "2 8 2", ""},
		"two rates":                   {"6 0 6", "2 8 2", "1 1"},
		"four rates":                  {"6 0 6", "2 8 2", "1 1 1 1"},
		"a rate of 0":                 {"6 0 6", "2 8 2", "1 1 0"},
		"a rate of 0 that has no use": {"6 0 6", "6 0 6", "1 0 1"},
		"a rate below 0":              {"6 0 6", "2 8 2", "-1 1 1"},
		"from below Low":              {"7 -2 7", "2 8 2", "1 1 1"},
		"to above High":               {"6 0 6", "0 12 0", "1 1 1"},
		"from with another weight":    {"6 0 5", "2 8 2", "1 1 1"},
		"to at another place":         {"6 0 6", "3 8 1", "1 1 1"},
		"two shares":                  {"6 6", "2 8 2", "1 1 1"},
		"no shares":                   {"", "", "1 1 1"},
		"to with four shares":         {"6 0 6", "2 8 2 0", "1 1 1"},
		"from that does not hold it, and many steps": {"6 0 5", "2 8 2", "1/1000000 1 1"},
	} {
		steps, e := team.Shift(trio(), load("12 1"), nums(c.from), nums(c.to), nums(c.rate))
		expectFailed(t, "Shift with "+name, listsText(steps), e, api.ErrArg)
	}
}

// P12.5: no more than MaxShift steps.
func TestShiftLimit(t *testing.T) {
	from, to := nums("6 0 6"), nums("2 8 2")
	for rate, want := range map[string]int{
		"8/1000": 1000, "8/999": 999, "80001/10000000": 1000,
		"79999/10000000": 0, "8/1001": 0, "1/1000000000000000000000000": 0,
	} {
		l, e := team.Shift(trio(), load("12 1"), from, to, []exact.Q{num("9"), num(rate), num("9")})
		if want == 0 {
			expectFailed(t, "Shift with the rate "+rate, listsText(l), e, api.ErrLimit)
			continue
		}
		expectError(t, "Shift with the rate "+rate, e, api.OK)
		if len(l) != want || numsText(l[len(l)-1]) != "2 8 2" || l[0][1].Cmp(over(num("8"), exact.Int(int64(want)))) != 0 {
			t.Error("Shift with the rate", rate, "has", len(l), "steps")
		}
	}
}

// mean returns the shares that are a part of the way from some to others.
func mean(from, to []exact.Q, part exact.Q) []exact.Q {
	var l []exact.Q
	for i := range from {
		l = append(l, from[i].Mul(num("1").Sub(part)).Add(to[i].Mul(part)))
	}
	return l
}

// changesBy reports whether some share changes by more than its rate in a part
// of the way from shares to others.
func changesBy(from, to, rate []exact.Q, part exact.Q) bool {
	for i := range from {
		if to[i].Sub(from[i]).Mul(part).Abs().Cmp(rate[i]) > 0 {
			return true
		}
	}
	return false
}

// P12.5 and P12.10: the steps are even, hold the load, and are as few as the
// rates allow.
func TestShiftIsShortest(t *testing.T) {
	s := source(1206)
	long := 0
	for range 2000 {
		l := s.carriers(3 + s.below(4))
		w, from, to, ok := s.journey(l)
		if !ok {
			continue
		}
		var rate []exact.Q
		for range l {
			rate = append(rate, s.one("1 2 1/2 1/3 1/10 9"))
		}
		steps, e := team.Shift(l, w, from, to, rate)
		expectError(t, "Shift", e, api.OK)
		n := int64(len(steps))
		for i, shares := range steps {
			part := over(exact.Int(int64(i+1)), exact.Int(n))
			expect(t, "a step of Shift", numsText(shares), numsText(mean(from, to, part)))
			if !holds(l, w, shares) {
				t.Error("the load", caseText(l, w), "is not held with", numsText(shares))
			}
		}
		if n == 0 {
			expect(t, "Shift without steps: from", numsText(from), numsText(to))
			continue
		}
		if changesBy(from, to, rate, over(num("1"), exact.Int(n))) {
			t.Error("Shift changes shares by more than", numsText(rate))
		}
		if n > 1 && !changesBy(from, to, rate, over(num("1"), exact.Int(n-1))) {
			t.Error("Shift has", n, "steps, and could have less")
		}
		if n > 2 {
			long++
		}
	}
	if long < 300 {
		t.Error("only", long, "shifts had more than two steps")
	}
}

// journey returns a load, and two ways to hold it that often are not the same:
// the best ones for these carriers and for some with other costs.
func (s *source) journey(l []team.Carrier) (w team.Load, from, to []exact.Q, ok bool) {
	w, ok = burden(l, s.shares(l))
	if !ok {
		return w, nil, nil, false
	}
	best := func() []exact.Q {
		other := append([]team.Carrier{}, l...)
		for i := range other {
			other[i].Cost = s.one("0 1 2 3 4 5 6 7")
		}
		shares, _, _ := team.Share(other, w)
		return shares
	}
	return w, best(), best(), true
}
