package gait

import (
	"slices"

	"amble/api"
	"amble/exact"
)

// inTurn returns the first result of comparing that is not 0, and 0 if all are.
func inTurn(results ...int) int {
	for _, r := range results {
		if r != 0 {
			return r
		}
	}
	return 0
}

// isBelow reports whether one of the numbers is below 0.
func isBelow(l ...exact.Q) bool { return exact.Min(l...).Sign() < 0 }

// compareAt compares two footholds by their points.
func compareAt(a, b Hold) int { return inTurn(a.At.X.Cmp(b.At.X), a.At.Z.Cmp(b.At.Z)) }

// haveMeeting reports whether two footholds of a list are at one point.
func haveMeeting(m []Hold) bool {
	sorted := slices.SortedFunc(slices.Values(m), compareAt)
	for i := range len(m) - 1 {
		if compareAt(sorted[i], sorted[i+1]) == 0 {
			return true
		}
	}
	return false
}

// CheckMap returns the error of a map.
func CheckMap(m []Hold) api.Errno {
	isWrong := func(h Hold) bool { return isBelow(h.Bearing, h.Cost) }
	if len(m) < 1 || len(m) > api.MaxHolds || slices.ContainsFunc(m, isWrong) || haveMeeting(m) {
		return api.ErrArg
	}
	return api.OK
}

// CheckWalker returns the error of a walker.
func CheckWalker(w Walker) api.Errno {
	hasLegs := w.Legs >= 1 && w.Legs <= api.MaxLegs
	if !hasLegs || w.PerPhase.Sign() <= 0 || isBelow(w.Long, w.Up, w.Down, w.Span, w.Weight, w.PerLength, w.PerRise) {
		return api.ErrArg
	}
	return api.OK
}

// unroll returns a map, followed by itself moved by by, by twice that, and so
// on.
func unroll(m []Hold, by exact.Point, copies int) []Hold {
	var all []Hold
	for i := range copies {
		way := by.Scale(exact.Int(int64(i)))
		for _, h := range m {
			h.At = h.At.Add(way)
			all = append(all, h)
		}
	}
	return all
}

// Unroll returns so many copies of a map, each one moved by by against the one
// before.
func Unroll(m []Hold, by exact.Point, copies int) ([]Hold, api.Errno) {
	switch {
	case CheckMap(m) != api.OK || by.X.Sign() == 0 && by.Z.Sign() == 0:
		return nil, api.ErrArg
	case copies < 1:
		return nil, api.ErrRange
	case copies > api.MaxHolds/len(m):
		return nil, api.ErrLimit
	}
	all := unroll(m, by, copies)
	if haveMeeting(all) {
		return nil, api.ErrArg
	}
	return all, api.OK
}
