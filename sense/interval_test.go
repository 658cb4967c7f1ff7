package sense_test

import (
	"math"
	"testing"

	"amble/api"
	"amble/exact"
	"amble/sense"
)

// expectAgree compares what agrees with the intervals of a text.
func expectAgree(t *testing.T, s string, f int, want string) {
	t.Helper()
	got, e := sense.Agree(intervals(s), f)
	expectOK(t, "Agree of "+s, intervalsText(got), e, intervalsText(intervals(want)))
}

func expectAgreeError(t *testing.T, s string, f int, want api.Errno) {
	t.Helper()
	got, e := sense.Agree(intervals(s), f)
	expectError(t, "Agree of "+s, e, want)
	expect(t, "Agree with an error", intervalsText(got), "")
}

// P10.1: what is contained in enough intervals.
func TestAgree(t *testing.T) {
	expectAgree(t, "0 4, 3 6, 5 8", 1, "3 4, 5 6")
	expectAgree(t, "0 4, 3 6, 5 8", 2, "0 8")
	expectAgreeError(t, "0 4, 3 6, 5 8", 0, api.ErrVoid)
	expectAgree(t, "-1/2 7/3", 0, "-1/2 7/3")
	expectAgree(t, "5 5", 0, "5 5")
	expectAgree(t, "0 4, 3 6, 7/2 8", 0, "7/2 4")
	expectAgree(t, "0 10, 1 2, 3 4, 5 6", 2, "1 2, 3 4, 5 6")
	expectAgree(t, "5 6, 3 4, 0 10, 1 2", 2, "1 2, 3 4, 5 6")
	expectAgree(t, "5 6, 1 2", 1, "1 2, 5 6")
}

// Intervals that touch in an end have this number in common; what touches is
// one piece.
func TestAgreeOfTouchingIntervals(t *testing.T) {
	expectAgree(t, "0 1, 1 2", 0, "1 1")
	expectAgree(t, "0 1, 1 2", 1, "0 2")
	expectAgree(t, "1 2, 0 1", 1, "0 2")
	expectAgree(t, "0 1, 1 2, 2 3, 3 4", 2, "1 1, 2 2, 3 3")
	expectAgree(t, "0 2, 0 2, 2 4, 2 4", 2, "0 4")
	expectAgree(t, "0 2, 0 2, 2 4, 2 4", 1, "2 2")
	expectAgree(t, "0 2, 0 2, 2 2, 2 4", 1, "2 2")
	expectAgree(t, "0 1, 1 1, 1 1, 3 3, 3 3", 2, "1 1")
	expectAgree(t, "0 1, 1 1, 1 1, 3 3, 3 3", 3, "1 1, 3 3")
	expectAgree(t, "3 3, 0 5, 0 5", 1, "0 5")
	expectAgree(t, "3 3, 0 5, 0 5", 0, "3 3")
	expectAgreeError(t, "0 1, 1001/1000 2", 0, api.ErrVoid)
}

func TestAgreeOfEqualIntervals(t *testing.T) {
	expectAgree(t, "1 2, 1 2, 1 2", 0, "1 2")
	expectAgree(t, "1 2, 1 2, 1 2", 2, "1 2")
	expectAgree(t, "1 1, 1 1", 0, "1 1")
	expectAgree(t, "1 1, 1 1, 2 2, 2 2, 3 3", 3, "1 1, 2 2")
}

func TestAgreeErrors(t *testing.T) {
	many := times(api.MaxSenses, intervals("0 1")[0])
	got, e := sense.Agree(many, 0)
	expectOK(t, "Agree of MaxSenses intervals", intervalsText(got), e, "[0 1]")
	many = append(many, intervals("2 1")...)
	_, e = sense.Agree(many, -1)
	expectError(t, "Agree of too many, one of them wrong", e, api.ErrLimit)
	expectAgreeError(t, "", 0, api.ErrArg)
	expectAgreeError(t, "", -1, api.ErrArg)
	expectAgreeError(t, "0 1, 2 1", 0, api.ErrArg)
	expectAgreeError(t, "0 1, 2 1", 2, api.ErrArg)
	for _, f := range []int{-1, 2, 3, math.MinInt, math.MaxInt} {
		expectAgreeError(t, "0 1, 2 3", f, api.ErrRange)
	}
	expectAgreeError(t, "0 1", 1, api.ErrRange)
	expectAgreeError(t, "0 1, 2 3", 0, api.ErrVoid)
	expectAgreeError(t, "0 1, 2 3, 4 5", 1, api.ErrVoid)
}

// agreeAt returns how many of the intervals contain a number.
func agreeAt(l []sense.Interval, q exact.Q) int {
	n := 0
	for _, i := range l {
		if i.Low.Cmp(q) <= 0 && i.High.Cmp(q) >= 0 {
			n++
		}
	}
	return n
}

// ends returns all ends of intervals, in order, each once.
func ends(l []sense.Interval) []exact.Q {
	var all []exact.Q
	for _, i := range l {
		all = append(all, i.Low, i.High)
	}
	return sorted(all)
}

// pieces returns what agrees, as the ends and the numbers between two of them
// have it.
func pieces(l []sense.Interval, f int) []sense.Interval {
	var found []sense.Interval
	wasIn := false
	for _, q := range between(ends(l)) {
		isIn := agreeAt(l, q) >= len(l)-f
		switch {
		case isIn && !wasIn:
			found = append(found, sense.Interval{Low: q, High: q})
		case isIn:
			found[len(found)-1].High = q
		}
		wasIn = isIn
	}
	return found
}

// P10.1, for intervals that look random, and for each f.
func TestAgreeOfAnyIntervals(t *testing.T) {
	s := source(1010)
	single, several, void := 0, 0, 0
	for range 1500 {
		l := s.intervals(1 + s.below(8))
		for f := range l {
			want := pieces(l, f)
			got, e := sense.Agree(l, f)
			expect(t, "Agree of "+intervalsText(l), intervalsText(got), intervalsText(want))
			switch {
			case len(want) == 0:
				void++
				expectError(t, "Agree of "+intervalsText(l), e, api.ErrVoid)
				continue
			case len(want) == 1 && want[0].Low.Cmp(want[0].High) == 0:
				single++
			case len(want) > 1:
				several++
			}
			expectError(t, "Agree of "+intervalsText(l), e, api.OK)
		}
	}
	if single < 100 || several < 300 || void < 300 {
		t.Error("only", single, "single numbers,", several, "times several pieces,", void, "times none")
	}
}

// More may be wrong: what agreed still does.
func TestAgreeGrows(t *testing.T) {
	s := source(1011)
	for range 300 {
		l := s.intervals(2 + s.below(20))
		var before []sense.Interval
		for f := range l {
			now, _ := sense.Agree(l, f)
			for _, i := range before {
				if agreeAt(now, i.Low) != 1 || agreeAt(now, middle(i.Low, i.High)) != 1 || agreeAt(now, i.High) != 1 {
					t.Error(intervalsText(now), "lacks something of", intervalsText(before))
				}
			}
			before = now
		}
	}
}
