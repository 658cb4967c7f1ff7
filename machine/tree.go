package machine

import (
	"iter"
	"slices"

	"amble/api"
	"amble/exact"
)

// Names returns the names of the bodies.
func Names(m Machine) []string {
	names := make([]string, len(m.Bodies))
	for i, b := range m.Bodies {
		names[i] = b.Name
	}
	return names
}

// upward gives a body of a valid machine, its parent, and so on up to the
// trunk.
func (m Machine) upward(body int) iter.Seq[int] {
	return func(yield func(int) bool) {
		for i := body; i >= 0; i = m.Bodies[i].Parent {
			if !yield(i) {
				return
			}
		}
	}
}

// checkBody returns the error of m, and ErrRange if it has no such body.
func checkBody(m Machine, body int) api.Errno {
	if e := Check(m); e != api.OK {
		return e
	}
	if !m.isBody(body) {
		return api.ErrRange
	}
	return api.OK
}

// Chain returns the bodies from the trunk to this one.
func Chain(m Machine, body int) ([]int, api.Errno) {
	if e := checkBody(m, body); e != api.OK {
		return nil, e
	}
	chain := slices.Collect(m.upward(body))
	slices.Reverse(chain)
	return chain, api.OK
}

// Children returns the bodies whose parent this one is.
func Children(m Machine, body int) ([]int, api.Errno) {
	if e := checkBody(m, body); e != api.OK {
		return nil, e
	}
	var children []int
	for i, b := range m.Bodies {
		if b.Parent == body {
			children = append(children, i)
		}
	}
	return children, api.OK
}

// weight returns the sum of all masses.
func (m Machine) weight() exact.Q {
	var sum exact.Q
	for _, b := range m.Bodies {
		sum = sum.Add(b.Mass)
	}
	return sum
}

// Weight returns the sum of all masses.
func Weight(m Machine) (exact.Q, api.Errno) {
	if e := Check(m); e != api.OK {
		return exact.Q{}, e
	}
	return m.weight(), api.OK
}
