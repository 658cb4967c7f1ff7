package wear

import (
	"math/bits"
	"slices"

	"amble/exact"
)

// set is some of the guards of a phase: a bit for each, by their places.
type set uint16

func (s set) has(place int) bool { return s>>place&1 == 1 }

// holds reports whether all guards of t are in s.
func (s set) holds(t set) bool { return t&^s == 0 }

// leastOf returns those sets that hold no other one, each once, rising.
func leastOf(l []set) []set {
	l = slices.Clone(l)
	slices.Sort(l)
	l = slices.Compact(l)
	slices.SortStableFunc(l, func(a, b set) int { return bits.OnesCount16(uint16(a)) - bits.OnesCount16(uint16(b)) })
	var least []set
	for _, s := range l {
		if !slices.ContainsFunc(least, s.holds) {
			least = append(least, s)
		}
	}
	slices.Sort(least)
	return least
}

// marks returns numbers from low to high: each way in which they may lie to the
// numbers of ends is that of one of them.
func marks(low, high exact.Q, ends []exact.Q) []exact.Q {
	l := []exact.Q{low, high}
	for _, q := range ends {
		if isBetween(low, q, high) {
			l = append(l, q)
		}
	}
	slices.SortFunc(l, exact.Q.Cmp)
	for i := range len(l) - 1 {
		half, _ := l[i].Add(l[i+1]).Div(exact.Int(2))
		l = append(l, half)
	}
	return l
}

// sight is what the guards of a phase see of the samples of a box: for load,
// angle and speed, the sets of those guards whose boxes reach to a number. (A
// guard sees a sample if its box reaches to all three numbers.)
type sight [3][]set

// look returns what guards see of the samples of a valid box.
func look(guards []Guard, b Box) sight {
	var seen sight
	low, high := numbers(b.Low), numbers(b.High)
	for k := range seen {
		var ends []exact.Q
		for _, g := range guards {
			ends = append(ends, numbers(g.Box.Low)[k], numbers(g.Box.High)[k])
		}
		for _, q := range marks(low[k], high[k], ends) {
			var reach set
			for i := range guards {
				if isBetween(ends[2*i], q, ends[2*i+1]) {
					reach |= 1 << i
				}
			}
			seen[k] = append(seen[k], reach)
		}
	}
	return seen
}

// least returns which guards see a sample, for those samples that some guards
// must see: the least of these sets.
func (v sight) least(must set) []set {
	found := []set{^set(0)}
	for _, reach := range v {
		var more []set
		isOut := func(s set) bool { return !s.holds(must) }
		for _, a := range leastOf(slices.DeleteFunc(slices.Clone(reach), isOut)) {
			for _, b := range found {
				more = append(more, a&b)
			}
		}
		found = leastOf(more)
	}
	return found
}
