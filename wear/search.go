package wear

import (
	"cmp"
	"slices"

	"amble/api"
)

// What delays a stop the most is found by a search. It rests on this: where no
// guard may fire, lower counts are never worse. So of the samples of a box only
// those matter that the least sets of guards see; who comes back to counts that
// are not above earlier ones can go on for ever; and where there is no way, it
// is enough to know which counts are too high.

// counts are those of a phase's guards, by their places among them.
type counts [api.MaxGuards]int8

// isWithin reports whether none of the counts is above that of another list.
func (c counts) isWithin(other counts) bool {
	for i, n := range c {
		if n > other[i] {
			return false
		}
	}
	return true
}

// free is more than any count.
const free = api.MaxHold + 1

// state is what has been counted, and how many cycles are to come.
type state struct {
	counts counts
	left   int
}

// stage is one of the cycles to come: the sets of guards that may see its
// sample, and how high each count may be before it and after it, or a guard
// that sees all the next samples will fire too soon; -1: it will in any case.
// From counts before it that are not below those of a dead end there is no way.
type stage struct {
	choices       []set
	before, after counts
	ends          []counts
}

// search looks for samples with which the guards of a phase do not fire too
// soon. Its stages are known by how many cycles are left with them. The states
// that failed have the dead ends in which they are.
type search struct {
	guards []Guard
	stages []stage
	failed map[state]counts
}

func newSearch(guards []Guard) *search {
	var end stage
	for i := range end.before {
		end.before[i] = free
	}
	return &search{guards, []stage{end}, map[state]counts{}}
}

// precede adds a stage before those that are known; the watched guards must not
// fire in it. Choices with a guard that must not be counted are left out.
func (s *search) precede(choices []set, watched set) {
	next := stage{after: s.stages[len(s.stages)-1].before}
	always, hasty := ^set(0), set(0)
	for i, g := range s.guards {
		if watched.has(i) {
			next.after[i] = min(next.after[i], int8(g.Hold-1))
		}
		if next.after[i] == 0 {
			hasty |= 1 << i
		}
	}
	for _, c := range choices {
		if c&hasty == 0 {
			next.choices = append(next.choices, c)
			always &= c
		}
	}
	for i, most := range next.after {
		switch {
		case most < 0:
			next.before[i] = most
		case always.has(i):
			next.before[i] = most - 1
		default:
			next.before[i] = free
		}
	}
	s.stages = append(s.stages, next)
}

// follow returns the counts after a sample that the guards of a choice see.
func (c counts) follow(choice set) counts {
	for i := range c {
		if choice.has(i) {
			c[i]++
		} else {
			c[i] = 0
		}
	}
	return c
}

// option is counts that may be next, and their risk.
type option struct {
	counts counts
	risk   int
}

// risk tells how close to firing guards are: each one that is a cycle closer
// counts for four that are not.
func risk(c, most counts) int {
	sum := 0
	for i, n := range c {
		sum += 1 << (2 * (free - (most[i] - n)))
	}
	return sum
}

// options returns what may come after some counts, those with a low risk first,
// and which counts are too high for the rest of the choices.
func (s *search) options(at state) (l []option, end counts) {
	next := s.stages[at.left]
	for _, choice := range next.choices {
		c := at.counts.follow(choice)
		if c.isWithin(next.after) {
			l = append(l, option{c, risk(c, next.after)})
		} else {
			end = next.tooHigh(c, end)
		}
	}
	slices.SortStableFunc(l, func(a, b option) int { return cmp.Compare(a.risk, b.risk) })
	return l, end
}

// tooHigh adds to a dead end why counts are too high after a stage: one of the
// guards, which costs the least.
func (n stage) tooHigh(c, end counts) counts {
	best, least := 0, int8(free)
	for i, most := range n.after {
		if c[i] > most {
			if more := max(most-end[i], 0); more < least {
				best, least = i, more
			}
		}
	}
	end[best] = max(end[best], n.after[best])
	return end
}

// learn notes a dead end.
func (s *search) learn(at state, end counts) {
	ends := s.stages[at.left].ends
	ends = slices.DeleteFunc(ends, end.isWithin)
	s.stages[at.left].ends = append(ends, end)
}

// known returns a dead end in which a state is, if one is known.
func (s *search) known(at state) (counts, bool) {
	if end, ok := s.failed[at]; ok {
		return end, true
	}
	isEnd := func(end counts) bool { return end.isWithin(at.counts) }
	ends := s.stages[at.left].ends
	if i := slices.IndexFunc(ends, isEnd); i >= 0 {
		s.failed[at] = ends[i]
		return ends[i], true
	}
	return counts{}, false
}

// way returns states that lead to the end, the last one first, if there are any;
// otherwise the dead end.
func (s *search) way(at state) (path []state, end counts, ok bool) {
	if at.left == 0 {
		return []state{at}, counts{}, true
	}
	if end, ok := s.known(at); ok {
		return nil, end, false
	}
	options, end := s.options(at)
	for _, o := range options {
		path, later, ok := s.way(state{o.counts, at.left - 1})
		if ok {
			return append(path, at), counts{}, true
		}
		for i, n := range later { // where a count has begun anew, n is 0
			end[i] = max(end[i], n-1)
		}
	}
	s.learn(at, end)
	s.failed[at] = end
	return nil, end, false
}

// comesBack reports whether counts of a way, the last ones first, are within
// earlier ones.
func comesBack(path []state) bool {
	for i, later := range path {
		for _, earlier := range path[i+1:] {
			if later.counts.isWithin(earlier.counts) {
				return true
			}
		}
	}
	return false
}
