package sense

import (
	"iter"
	"slices"

	"amble/api"
	"amble/exact"
)

func (i Interval) isValid() bool { return i.Low.Cmp(i.High) <= 0 }

// has reports whether the interval contains a number.
func (i Interval) has(q exact.Q) bool { return i.Low.Cmp(q) <= 0 && q.Cmp(i.High) <= 0 }

// goesOn reports whether the interval contains a number, and more behind it.
func (i Interval) goesOn(q exact.Q) bool { return i.has(q) && q.Cmp(i.High) < 0 }

// count returns for how many elements of a list something holds.
func count[T any](l []T, holds func(T) bool) int {
	n := 0
	for _, x := range l {
		if holds(x) {
			n++
		}
	}
	return n
}

// end is where an interval begins, or where it ends.
type end struct {
	at     exact.Q
	isHigh bool
}

// compare says which of two ends comes first. At the same number intervals
// begin before others end there: they have it in common.
func (a end) compare(b end) int {
	switch order := a.at.Cmp(b.at); {
	case order != 0 || a.isHigh == b.isHigh:
		return order
	case a.isHigh:
		return 1
	}
	return -1
}

// sweep goes through the ends of intervals from left to right.
func sweep(l []Interval) iter.Seq[end] {
	var ends []end
	for _, i := range l {
		ends = append(ends, end{at: i.Low}, end{at: i.High, isHigh: true})
	}
	slices.SortFunc(ends, end.compare)
	return slices.Values(ends)
}

// agreeing returns the numbers that at least so many intervals contain; need is
// at least 1.
func agreeing(l []Interval, need int) []Interval {
	var pieces []Interval
	isInside := false
	for e := range sweep(l) {
		has := func(i Interval) bool { return i.has(e.at) }
		goesOn := func(i Interval) bool { return i.goesOn(e.at) }
		switch {
		case !isInside && !e.isHigh && count(l, has) >= need:
			pieces = append(pieces, Interval{Low: e.at})
			isInside = true
		case isInside && e.isHigh && count(l, goesOn) < need:
			pieces[len(pieces)-1].High = e.at
			isInside = false
		}
	}
	return pieces
}

// Agree returns what agrees with intervals of which at most f are wrong, from
// left to right.
func Agree(l []Interval, f int) ([]Interval, api.Errno) {
	isWrong := func(i Interval) bool { return !i.isValid() }
	switch {
	case len(l) > api.MaxSenses:
		return nil, api.ErrLimit
	case len(l) == 0 || slices.ContainsFunc(l, isWrong):
		return nil, api.ErrArg
	case f < 0 || f >= len(l):
		return nil, api.ErrRange
	}
	pieces := agreeing(l, len(l)-f)
	if len(pieces) == 0 {
		return nil, api.ErrVoid
	}
	return pieces, api.OK
}
