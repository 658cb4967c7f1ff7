package gait

import (
	"maps"
	"slices"

	"amble/api"
	"amble/exact"
)

// priced is a state with a value.
type priced struct {
	value exact.Q
	state key
}

// compare compares two of them by the value, and then by the state.
func (a priced) compare(b priced) int {
	return inTurn(a.value.Cmp(b.value), a.state.compare(b.state))
}

// search finds the cheapest ways from the start. The states that have been
// reached are open, until they are done: the cheapest one is, as each move costs
// something. What is known of a state is its least cost, with the least state
// from which a move gives it.
type search struct {
	country
	open, done map[key]priced
	queue      []priced // of open states
}

// reach notes that a state is reached by a move from another one.
func (s *search) reach(state key, from priced, cost exact.Q) {
	if _, isDone := s.done[state]; isDone {
		return
	}
	now := priced{from.value.Add(cost), from.state}
	known, isOpen := s.open[state]
	if isOpen && now.compare(known) >= 0 {
		return
	}
	if !isOpen || now.value.Cmp(known.value) < 0 {
		s.queue = put(s.queue, priced{now.value, state}, priced.compare)
	}
	s.open[state] = now
}

// next returns the cheapest open state, which is done from now on. A state that
// was reached again for less is in the queue again; by then it is done.
func (s *search) next() priced {
	for {
		var least priced
		least, s.queue = take(s.queue, priced.compare)
		if known, ok := s.open[least.state]; ok {
			delete(s.open, least.state)
			s.done[least.state] = known
			return least
		}
	}
}

// run looks at all states that can be reached; ErrLimit: they are too many.
func (s *search) run() api.Errno {
	s.reach(keyOf(0, s.Start), priced{}, exact.Q{})
	for len(s.open) > 0 {
		from := s.next()
		for to, cost := range s.moves(from.state) {
			s.reach(to, from, cost)
		}
		if len(s.open)+len(s.done) > api.MaxStates {
			return api.ErrLimit
		}
	}
	return api.OK
}

// wayTo returns the way to a state that is done.
func (s *search) wayTo(state key) []State {
	way := []State{s.state(state)}
	for s.done[state].value.Sign() > 0 { // only the start costs nothing
		state = s.done[state].state
		way = append(way, s.state(state))
	}
	slices.Reverse(way)
	return way
}

// plan returns the plan when all states are done.
func (s *search) plan() Plan {
	var a Plan
	var goal key
	for _, k := range slices.SortedFunc(maps.Keys(s.done), key.compare) {
		value := s.done[k].value
		a.Marks = append(a.Marks, Mark{s.state(k), value})
		if s.isGoal(k) && (!a.Found || value.Cmp(a.Cost) < 0) {
			a.Found, a.Cost, goal = true, value, k
		}
	}
	if a.Found {
		a.Way = s.wayTo(goal)
	}
	return a
}

// Find returns the plan.
func Find(p Problem) (Plan, api.Errno) {
	c, e := enter(p)
	if e != api.OK {
		return Plan{}, e
	}
	s := search{country: c, open: map[key]priced{}, done: map[key]priced{}}
	if e := s.run(); e != api.OK {
		return Plan{}, e
	}
	return s.plan(), api.OK
}
