package wear

import (
	"amble/api"
)

// everyone is all guards of a phase.
const everyone = ^set(0)

// lasting returns in how many cycles, one after another, no guard of a phase may
// fire; false: there is no greatest number.
func lasting(guards []Guard, seen sight) (int, bool) {
	s, choices := newSearch(guards), seen.least(0)
	for n := 1; ; n++ {
		s.precede(choices, everyone)
		path, _, ok := s.way(state{left: n})
		switch {
		case !ok:
			return n - 1, true
		case comesBack(path):
			return 0, false
		}
	}
}

// firing returns in which cycle of a phase a guard may fire as the first one, at
// the latest; false: it cannot. The phase must not last for ever. At last all
// samples must be in the guard's box. (If so many cycles may come before them,
// fewer may, too.)
func firing(guards []Guard, seen sight, place int) (int, bool) {
	s, hold, own := newSearch(guards), guards[place].Hold, set(1)<<place
	least, withOwn := seen.least(0), seen.least(own)
	s.precede(withOwn, own-1)
	for range hold - 1 {
		s.precede(withOwn, everyone)
	}
	for n := hold; ; n++ {
		if _, _, ok := s.way(state{left: n}); !ok {
			return n - 1, n > hold
		}
		s.precede(least, everyone)
	}
}

// inquiry asks for the latencies of phases: those that are known, and 0 for
// those that are being found.
type inquiry struct {
	device Device
	box    Box
	known  map[uint8]int
}

// latency returns that of a phase, if there is one. A phase that may come again
// before Stop has none.
func (q *inquiry) latency(phase uint8) (int, bool) {
	if phase == Stop {
		return 0, true
	}
	if n, isAsked := q.known[phase]; isAsked {
		return n, n > 0
	}
	q.known[phase] = 0
	var guards []Guard
	for _, g := range q.device.Guards {
		if g.From == phase {
			guards = append(guards, g)
		}
	}
	seen := look(guards, q.box)
	n, ends := lasting(guards, seen)
	if !ends {
		return 0, false
	}
	most := n + 1
	for i, g := range guards {
		if g.To == Stop {
			continue
		}
		cycle, canFire := firing(guards, seen, i)
		if !canFire {
			continue
		}
		later, ends := q.latency(g.To)
		if !ends {
			return 0, false
		}
		most = max(most, cycle+later)
	}
	q.known[phase] = most
	return most, true
}

// Latency returns after how many cycles with samples of a box the device, if it
// has just come to a phase, has been in Stop for certain.
func Latency(d Device, b Box, phase uint8) (int, api.Errno) {
	switch {
	case Check(d) != api.OK:
		return 0, api.ErrArg
	case phase >= phases:
		return 0, api.ErrRange
	case !isBox(b):
		return 0, api.ErrArg
	}
	q := inquiry{d, b, map[uint8]int{}}
	n, ends := q.latency(phase)
	if !ends {
		return 0, api.ErrMany
	}
	return n, api.OK
}
