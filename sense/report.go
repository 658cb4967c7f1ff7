package sense

import (
	"slices"

	"amble/api"
	"amble/exact"
	"amble/hull"
)

// maxState is how many numbers a state may have.
const maxState = 4

// checkReports returns the first error of reports, and of an enclosure that may
// have more rows.
func checkReports(l []hull.Poly, enclosure ...hull.Poly) api.Errno {
	isLong := func(p hull.Poly) bool { return len(p.Rows) > api.MaxReport }
	isWrong := func(p hull.Poly) bool {
		return hull.Check(p) != api.OK || p.N != l[0].N || p.N > maxState
	}
	switch {
	case len(l) > api.MaxReports:
		return api.ErrLimit
	case len(l) == 0 || slices.ContainsFunc(l, isLong) || slices.ContainsFunc(slices.Concat(l, enclosure), isWrong):
		return api.ErrArg
	}
	return api.OK
}

// checkFusion is checkReports where at most f of the reports are wrong.
func checkFusion(l []hull.Poly, f int, enclosure ...hull.Poly) api.Errno {
	e := checkReports(l, enclosure...)
	if e == api.OK && (f < 0 || f >= len(l)) {
		e = api.ErrRange
	}
	return e
}

// subsets hands over all sets of k of the numbers from 0 to n - 1, rising.
func subsets(n, k int, take func(set []int)) {
	var grow func(set []int)
	grow = func(set []int) {
		if len(set) == k {
			take(set)
			return
		}
		from := 0
		if len(set) > 0 {
			from = set[len(set)-1] + 1
		}
		for i := from; i < n; i++ {
			grow(append(slices.Clone(set), i))
		}
	}
	grow(nil)
}

// pick returns the reports with these indexes.
func pick(l []hull.Poly, which []int) []hull.Poly {
	var picked []hull.Poly
	for _, i := range which {
		picked = append(picked, l[i])
	}
	return picked
}

// agreement is what some of the reports have in common.
type agreement struct {
	hull.Poly
	who []int
}

// agreements returns what agrees with reports of which at most f are wrong, and
// belongs to others for certain: for each choice of so many reports as must be
// right what they have in common, if this is not void. It returns ErrVoid if
// all of it is.
func agreements(l []hull.Poly, f int, certain ...hull.Poly) (found []agreement, e api.Errno) {
	subsets(len(l), len(l)-f, func(who []int) {
		p, wrong := common(slices.Concat(pick(l, who), certain)...)
		switch {
		case wrong != api.OK:
			e = wrong
		case !isVoid(p):
			found = append(found, agreement{p, who})
		}
	})
	switch {
	case e != api.OK:
		return nil, e
	case len(found) == 0:
		return nil, api.ErrVoid
	}
	return found, api.OK
}

// fuse returns the canonical description of the convex hull of agreements, if
// they are bounded.
func fuse(l []hull.Poly, f int, certain ...hull.Poly) (hull.Poly, api.Errno) {
	found, e := agreements(l, f, certain...)
	if e != api.OK {
		return hull.Poly{}, e
	}
	var sets []hull.Poly
	for _, a := range found {
		sets = append(sets, a.Poly)
	}
	return enclose(sets)
}

// Fuse returns the canonical description of the convex hull of what agrees with
// reports of which at most f are wrong.
func Fuse(l []hull.Poly, f int) (hull.Poly, api.Errno) {
	if e := checkFusion(l, f); e != api.OK {
		return hull.Poly{}, e
	}
	if slices.ContainsFunc(l, isOpen) {
		return hull.Poly{}, api.ErrOpen
	}
	return fuse(l, f)
}

// Liars returns the reports that are wrong in every explanation, and those that
// are wrong in some. A report that is right somewhere is among those of an
// agreement, as so many others as it needs are right there, too.
func Liars(l []hull.Poly, f int) (sure, maybe []int, e api.Errno) {
	if e := checkFusion(l, f); e != api.OK {
		return nil, nil, e
	}
	found, e := agreements(l, f)
	if e != api.OK {
		return nil, nil, e
	}
	for i, p := range l {
		isRight := func(a agreement) bool { return slices.Contains(a.who, i) }
		isWrong := func(a agreement) bool {
			within, _ := hull.Within(a.Poly, p)
			return !within.Holds
		}
		if !slices.ContainsFunc(found, isRight) {
			sure = append(sure, i)
		}
		if slices.ContainsFunc(found, isWrong) {
			maybe = append(maybe, i)
		}
	}
	return sure, maybe, api.OK
}

// Conflict returns reports that have no common point, while all of them but any
// one have, and weights that show the former.
func Conflict(l []hull.Poly) (which []int, weights []exact.Q, e api.Errno) {
	if e := checkReports(l); e != api.OK {
		return nil, nil, e
	}
	n := l[0].N
	weights, isRefuted := refute(n, l...)
	if !isRefuted {
		return nil, nil, api.ErrNone
	}
	for i := range l {
		which = append(which, i)
	}
	for i := range l {
		isIt := func(k int) bool { return k == i }
		less := slices.DeleteFunc(slices.Clone(which), isIt)
		if shown, isRefuted := refute(n, pick(l, less)...); isRefuted {
			which, weights = less, shown
		}
	}
	return which, weights, api.OK
}
