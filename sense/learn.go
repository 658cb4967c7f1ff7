package sense

import (
	"slices"

	"amble/api"
	"amble/exact"
	"amble/hull"
)

// learned returns the pairs (Give, Sink) of the soils with this yield whose
// depths are those of the records, up to the tolerance.
func learned(yield exact.Q, l []Record, tolerance exact.Q) hull.Poly {
	one := exact.Int(1)
	set := hull.Poly{N: 2}
	add := func(ofGive, ofSink, most exact.Q) {
		set.Rows = append(set.Rows, hull.Row{A: []exact.Q{ofGive, ofSink}, B: most})
	}
	add(one.Neg(), exact.Q{}, exact.Q{})
	add(one, one.Neg(), exact.Q{})
	var peak exact.Q
	for _, r := range l {
		ofGive, ofSink := shares(yield, peak, r.Load)
		add(ofGive, ofSink, tolerance.Add(r.Depth))
		add(ofGive.Neg(), ofSink.Neg(), tolerance.Sub(r.Depth))
		peak = exact.Max(peak, r.Load)
	}
	return set
}

// checkRecords returns ErrRange if a load or the tolerance is below 0.
func checkRecords(l []Record, tolerance exact.Q) api.Errno {
	isWrong := func(r Record) bool { return isBelow0(r.Load) }
	if slices.ContainsFunc(l, isWrong) || isBelow0(tolerance) {
		return api.ErrRange
	}
	return api.OK
}

// Learn returns the canonical description of the pairs (Give, Sink) of all soils
// with this yield that the records allow.
func Learn(yield exact.Q, l []Record, tolerance exact.Q) (hull.Poly, api.Errno) {
	switch {
	case len(l) > api.MaxSenses:
		return hull.Poly{}, api.ErrLimit
	case checkRecords(l, tolerance) != api.OK || isBelow0(yield):
		return hull.Poly{}, api.ErrRange
	}
	return limited(hull.Canon(learned(yield, l, tolerance)))
}

// Yields returns the indexes of the candidates that are the yield of some soil
// that the records allow, rising.
func Yields(candidates []exact.Q, l []Record, tolerance exact.Q) ([]int, api.Errno) {
	switch {
	case len(l) > api.MaxSenses || len(candidates) > api.MaxSenses:
		return nil, api.ErrLimit
	case checkRecords(l, tolerance) != api.OK || slices.ContainsFunc(candidates, isBelow0):
		return nil, api.ErrRange
	}
	var which []int
	for i, yield := range candidates {
		if !isVoid(learned(yield, l, tolerance)) {
			which = append(which, i)
		}
	}
	return which, api.OK
}

// soils returns those at the corners of a set of pairs (Give, Sink). Depths are
// sums of multiples of the two, so what holds for these depths holds for all.
func soils(set hull.Poly, yield exact.Q) ([]Soil, api.Errno) {
	points, rays, e := hull.Corners(set)
	switch {
	case e != api.OK:
		return nil, e
	case len(rays) > 0:
		return nil, api.ErrOpen
	case len(points) == 0:
		return nil, api.ErrVoid
	}
	var l []Soil
	for _, x := range points {
		l = append(l, Soil{x[0], x[1], yield})
	}
	isWrong := func(s Soil) bool { return !s.fits() }
	if slices.ContainsFunc(l, isWrong) {
		return nil, api.ErrArg
	}
	return l, api.OK
}

// soilsFor returns the same for other numbers, none of which may be below 0.
func soilsFor(set hull.Poly, yield exact.Q, others ...exact.Q) ([]Soil, api.Errno) {
	switch {
	case hull.Check(set) != api.OK || set.N != 2:
		return nil, api.ErrArg
	case isBelow0(yield) || slices.ContainsFunc(others, isBelow0):
		return nil, api.ErrRange
	}
	return soils(set, yield)
}

// depths returns those of soils under a load, for a peak before it.
func depths(l []Soil, peak, load exact.Q) []exact.Q {
	var all []exact.Q
	for _, s := range l {
		all = append(all, s.depth(peak, load))
	}
	return all
}

// Forecast returns the least and the greatest depth under a load, over all soils
// of a set of pairs (Give, Sink), for a peak before it.
func Forecast(set hull.Poly, yield, peak, load exact.Q) (low, high exact.Q, e api.Errno) {
	l, e := soilsFor(set, yield, peak, load)
	if e != api.OK {
		return low, high, e
	}
	all := depths(l, peak, load)
	return exact.Min(all...), exact.Max(all...), api.OK
}

// Bearing returns the greatest load under which all soils of a set of pairs
// (Give, Sink) are at most so deep, for a peak before it.
func Bearing(set hull.Poly, yield, peak, depth exact.Q) (exact.Q, api.Errno) {
	l, e := soilsFor(set, yield, peak, depth)
	if e != api.OK {
		return exact.Q{}, e
	}
	if exact.Max(depths(l, peak, exact.Q{})...).Cmp(depth) > 0 {
		return exact.Q{}, api.ErrNone
	}
	var loads []exact.Q
	for _, s := range l {
		if load, ok := s.bearing(peak, depth); ok {
			loads = append(loads, load)
		}
	}
	if len(loads) == 0 {
		return exact.Q{}, api.ErrOpen
	}
	return exact.Min(loads...), api.OK
}
