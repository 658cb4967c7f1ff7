package contact

import (
	"iter"
	"slices"

	"amble/api"
	"amble/exact"
	"amble/hull"
)

// countUp changes a word to the next one; false: there is none.
func countUp(word []uint8) bool {
	for i := len(word) - 1; i >= 0; i-- {
		if word[i] < Back {
			word[i]++
			return true
		}
		word[i] = Apart
	}
	return false
}

// words goes through all words of some contacts, in order.
func words(contacts int) iter.Seq[[]uint8] {
	return func(yield func([]uint8) bool) {
		word := make([]uint8, contacts)
		for yield(slices.Clone(word)) && countUp(word) {
		}
	}
}

// anyPoint returns an answer that has a point of p, or shows that there is
// none.
func anyPoint(p hull.Poly) hull.Answer {
	answer, _ := hull.Maximize(make([]exact.Q, p.N), p)
	return answer
}

// hasPoint reports whether the set of a word has a point. It looks for factors
// of the axes of its modes, as these are fewer than the impulses.
func (x Problem) hasPoint(word []uint8, set hull.Poly) bool {
	var axes exact.Mat
	for contact, mode := range word {
		axes = append(axes, x.touch(contact).axes(mode)...)
	}
	factors, _ := hull.Preimage(set, across(set.N, axes), make([]exact.Q, set.N))
	return anyPoint(factors).Kind != hull.Void
}

// solved goes through the words whose sets have points, with their sets.
func (x Problem) solved() iter.Seq2[[]uint8, hull.Poly] {
	return func(yield func([]uint8, hull.Poly) bool) {
		for word := range words(len(x.Mu)) {
			if set := x.set(word); x.hasPoint(word, set) && !yield(word, set) {
				return
			}
		}
	}
}

// Words returns all words whose sets have points.
func Words(x Problem) ([][]uint8, api.Errno) {
	if e := Check(x); e != api.OK {
		return nil, e
	}
	var found [][]uint8
	for word := range x.solved() {
		found = append(found, word)
	}
	return found, api.OK
}

// Refute returns weights that show that the set of a word has no point.
func Refute(x Problem, word []uint8) ([]exact.Q, api.Errno) {
	set, e := Set(x, word)
	if e != api.OK {
		return nil, e
	}
	answer := anyPoint(set)
	if answer.Kind != hull.Void {
		return nil, api.ErrNone
	}
	return answer.Weights, api.OK
}

// Solve returns the least solution of the first word that has one.
func Solve(x Problem) (Outcome, api.Errno) {
	if e := Check(x); e != api.OK {
		return Outcome{}, e
	}
	for word, set := range x.solved() {
		p, _ := hull.Least(set)
		return Outcome{Word: word, P: p, W: x.after(p)}, api.OK
	}
	return Outcome{}, api.ErrNone
}

// like returns the polyhedron of the impulses with the same velocities after as
// these.
func (x Problem) like(p []exact.Q) hull.Poly {
	like := hull.Poly{N: x.size()}
	for i, change := range times(x.G, p) {
		like.Rows = add(like.Rows, atMost(x.G[i], change), atLeast(x.G[i], change))
	}
	return like
}

// Unique reports whether all solutions have the same velocities after.
func Unique(x Problem) (bool, api.Errno) {
	first, e := Solve(x)
	if e != api.OK {
		return false, e
	}
	like := x.like(first.P)
	for _, set := range x.solved() {
		if within, _ := hull.Within(set, like); !within.Holds {
			return false, api.OK
		}
	}
	return true, api.OK
}

// Spread returns the least and the greatest value of c times the velocities
// after, over all solutions, and whether there are such.
func Spread(x Problem, c []exact.Q) (low, high exact.Q, below, above bool, e api.Errno) {
	if e := checkWith(x, c); e != api.OK {
		return low, high, false, false, e
	}
	// G is symmetric, so c·(G p) is (G c)·p. In a direction d in which a set has
	// no end, its rows make d·(G d) at most 0, so G d is 0: there always is a
	// least and a greatest value.
	goal, before := times(x.G, c), dot(c, x.V)
	var lows, highs []exact.Q
	for _, set := range x.solved() {
		least, most, _, _, _ := hull.Bounds(goal, set)
		lows, highs = append(lows, least.Add(before)), append(highs, most.Add(before))
	}
	if len(lows) == 0 {
		return low, high, false, false, api.ErrNone
	}
	return exact.Min(lows...), exact.Max(highs...), true, true, api.OK
}
