package wear

import (
	"testing"

	"amble/exact"
)

// The search for latencies sees little of what there is, or it would take too
// long with many guards.

// cell returns the box of the samples with numbers between these ends.
func cell(ends ...int64) Box {
	q := func(i int) exact.Q { return exact.Int(ends[i]) }
	return Box{Sample{q(0), q(2), q(4)}, Sample{q(1), q(3), q(5)}}
}

// crowd returns guards that leave four places which must be visited in turn, and
// others that hinder little; but they count much.
func crowd() []Guard {
	l := []Guard{
		{Box: cell(0, 40, 0, 10, 0, 10), Hold: 1},
		{Box: cell(0, 40, 0, 10, 20, 30), Hold: 1},
		{Box: cell(0, 40, 20, 30, 0, 10), Hold: 1},
		{Box: cell(0, 40, 20, 30, 20, 30), Hold: 1},
		{Box: cell(0, 40, 10, 30, 0, 30), Hold: 3},
		{Box: cell(0, 40, 0, 20, 0, 30), Hold: 4},
		{Box: cell(0, 40, 0, 30, 10, 30), Hold: 5},
		{Box: cell(0, 40, 0, 30, 0, 20), Hold: 7},
	}
	for i := range int64(4) {
		l = append(l, Guard{Box: cell(0, 8*i+1, 0, 30, 0, 30), Hold: 8}, Guard{Box: cell(8*i+4, 40, 0, 30, 0, 30), Hold: 8})
	}
	return l
}

// expectFew looks for how long no guard may fire, and compares the number of
// states that failed.
func expectFew(t *testing.T, name string, guards []Guard, cycles, most int) {
	t.Helper()
	s, choices := newSearch(guards), look(guards, cell(0, 40, 0, 30, 0, 30)).least(0)
	n := 0
	for ok := true; ok; n++ {
		s.precede(choices, everyone)
		_, _, ok = s.way(state{left: n + 1})
	}
	if n-1 != cycles || len(s.failed) > most {
		t.Error(name, "fire after", n-1, "cycles at the latest;", len(s.failed), "states failed")
	}
}

// P1: the search ends soon.
func TestFewStates(t *testing.T) {
	guards := crowd()
	expectFew(t, "Guards", guards, 19, 3000)
	always := append(guards[:15:15], Guard{Box: cell(0, 40, 0, 30, 0, 30), Hold: 8})
	expectFew(t, "Guards with one that sees all", always, 7, 1)
	halves := append(guards[:14:14], Guard{Box: cell(20, 40, 0, 30, 0, 30), Hold: 1}, Guard{Box: cell(0, 20, 0, 30, 0, 30), Hold: 8})
	expectFew(t, "Guards with one that sees all that is left", halves, 7, 1)
}
