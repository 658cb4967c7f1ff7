package team

import (
	"slices"

	"amble/api"
	"amble/exact"
)

// checkShift returns ErrArg if there is no shift from shares to others with
// these rates.
func checkShift(l []Carrier, w Load, from, to, rate []exact.Q) api.Errno {
	isNone := func(q exact.Q) bool { return q.Sign() <= 0 }
	if len(rate) != len(l) || slices.ContainsFunc(rate, isNone) || !Holds(l, w, from) || !Holds(l, w, to) {
		return api.ErrArg
	}
	return api.OK
}

// stepsOf returns the least number of even steps in which no share changes by
// more than its rate; false: they are too many.
func stepsOf(from, to, rate []exact.Q) (int, bool) {
	var most exact.Q
	for i := range from {
		most = exact.Max(most, over(to[i].Sub(from[i]).Abs(), rate[i]))
	}
	n, isSmall := most.Ceil().Int64()
	return int(n), isSmall && n <= api.MaxShift
}

// between returns the numbers that are a part of the way from some to others.
func between(from, to []exact.Q, part exact.Q) []exact.Q {
	var l []exact.Q
	for i, q := range from {
		l = append(l, q.Add(to[i].Sub(q).Mul(part)))
	}
	return l
}

// Shift returns the shares after each step of the shortest even way from shares
// to others.
func Shift(l []Carrier, w Load, from, to, rate []exact.Q) ([][]exact.Q, api.Errno) {
	if e := checkShift(l, w, from, to, rate); e != api.OK {
		return nil, e
	}
	n, isSmall := stepsOf(from, to, rate)
	if !isSmall {
		return nil, api.ErrLimit
	}
	var steps [][]exact.Q
	for i := range n {
		part := over(exact.Int(int64(i+1)), exact.Int(int64(n)))
		steps = append(steps, between(from, to, part))
	}
	return steps, api.OK
}
