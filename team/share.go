package team

import (
	"slices"

	"amble/api"
	"amble/exact"
	"amble/hull"
)

// best returns, of the points of a bounded polyhedron, those first numbers, one
// for each cost, that cost the least, and of several the least ones; ErrVoid:
// there is no point.
func best(p hull.Poly, costs []exact.Q) (shares []exact.Q, cost exact.Q, e api.Errno) {
	goal := longer(p.N, 0, costs)
	cost, _, _, _, e = hull.Bounds(goal, p)
	if e != api.OK {
		return nil, exact.Q{}, e
	}
	p.Rows = append(p.Rows, hull.Row{A: goal, B: cost})
	point, _ := hull.Least(p)
	return slices.Clone(point[:len(costs)]), cost, api.OK
}

// refute returns weights that show that a valid polyhedron has no point; false:
// it has one.
func refute(p hull.Poly) ([]exact.Q, bool) {
	answer, _ := hull.Maximize(make([]exact.Q, p.N), p)
	return answer.Weights, answer.Kind == hull.Void
}

// Share returns the best shares that hold the load, and their cost.
func Share(l []Carrier, w Load) (shares []exact.Q, cost exact.Q, e api.Errno) {
	p, e := System(l, w)
	if e != api.OK {
		return nil, exact.Q{}, e
	}
	return best(p, costs(l))
}

// Fails returns weights for the rows of the system that show that no shares hold
// the load.
func Fails(l []Carrier, w Load) ([]exact.Q, api.Errno) {
	p, e := System(l, w)
	if e != api.OK {
		return nil, e
	}
	weights, isVoid := refute(p)
	if !isVoid {
		return nil, api.ErrNone
	}
	return weights, api.OK
}

// Where returns the least and the greatest X at which the carriers can hold a
// load of this weight.
func Where(l []Carrier, weight exact.Q) (low, high exact.Q, e api.Errno) {
	p, e := System(l, Load{Weight: weight})
	if e != api.OK {
		return exact.Q{}, exact.Q{}, e
	}
	p.Rows = p.Rows[:len(p.Rows)-2] // wherever the load is
	least, most, _, _, e := hull.Bounds(places(l), p)
	if e != api.OK {
		return exact.Q{}, exact.Q{}, e
	}
	return over(least, weight), over(most, weight), api.OK
}

// without returns the carriers, of which one can carry nothing.
func without(l []Carrier, who int) []Carrier {
	l = slices.Clone(l)
	l[who].Low, l[who].High = exact.Q{}, exact.Q{}
	return l
}

// Without returns the best shares without this carrier, and their cost.
func Without(l []Carrier, w Load, who int) (shares []exact.Q, cost exact.Q, e api.Errno) {
	switch e := Check(l, w); {
	case e != api.OK:
		return nil, exact.Q{}, e
	case who < 0 || who >= len(l):
		return nil, exact.Q{}, api.ErrRange
	}
	return Share(without(l, who), w)
}

// Spare returns the carriers without which there are shares.
func Spare(l []Carrier, w Load) ([]int, api.Errno) {
	if e := Check(l, w); e != api.OK {
		return nil, e
	}
	var spared []int
	for who := range l {
		if _, isVoid := refute(system(without(l, who), w)); !isVoid {
			spared = append(spared, who)
		}
	}
	return spared, api.OK
}
