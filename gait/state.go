package gait

import (
	"math/bits"
	"slices"

	"amble/api"
	"amble/exact"
)

// key is a state of a problem as a value that can be the key of a map: its
// phase, and then its footholds; what is behind them is 0.
type key [1 + api.MaxLegs]int

// keyOf returns the key of a state that has a foothold for each leg.
func keyOf(phase int, holds []int) key {
	k := key{phase}
	copy(k[1:], holds)
	return k
}

// state returns the state of a key.
func (p Problem) state(k key) State {
	return State{k[0], slices.Clone(k[1 : 1+p.Walker.Legs])}
}

// compare compares two states by the phase, and then foothold by foothold.
func (k key) compare(l key) int { return slices.Compare(k[:], l[:]) }

// hasHolds reports whether there is a foothold of the map for each leg.
func (p Problem) hasHolds(holds []int) bool {
	isMissing := func(h int) bool { return h < 0 || h >= len(p.Map) }
	return len(holds) == p.Walker.Legs && !slices.ContainsFunc(holds, isMissing)
}

// standing returns the footholds of the legs that stand.
func (p Problem) standing(k key) []int {
	var on []int
	for leg := range p.Walker.Legs {
		if p.Word.stands(leg, k[0]) {
			on = append(on, k[1+leg])
		}
	}
	return on
}

// areApart reports whether no two of the footholds are the same.
func areApart(holds []int) bool {
	var taken uint64 // there are at most 64 footholds
	for _, h := range holds {
		taken |= 1 << h
	}
	return bits.OnesCount64(taken) == len(holds)
}

// areInReach reports whether the footholds are not further apart than Span.
func (p Problem) areInReach(holds []int) bool {
	low, high := p.Map[holds[0]].At.X, p.Map[holds[0]].At.X
	for _, h := range holds[1:] {
		low, high = exact.Min(low, p.Map[h].At.X), exact.Max(high, p.Map[h].At.X)
	}
	return high.Sub(low).Cmp(p.Walker.Span) <= 0
}

// bear reports whether the footholds together bear the weight, each of them the
// same load.
func (p Problem) bear(holds []int) bool {
	parts := exact.Int(int64(len(holds)))
	isWeak := func(h int) bool {
		bearing := p.Map[h].Bearing
		return bearing.Sign() > 0 && bearing.Mul(parts).Cmp(p.Walker.Weight) < 0
	}
	return !slices.ContainsFunc(holds, isWeak)
}

// canBe reports whether the legs that stand in a state can stand there.
func (p Problem) canBe(k key) bool {
	on := p.standing(k)
	return areApart(on) && p.areInReach(on) && p.bear(on)
}

// isPossible reports whether a state of a valid map, walker and word is
// possible.
func (p Problem) isPossible(s State) bool {
	hasPhase := s.Phase >= 0 && s.Phase < len(p.Word)
	return hasPhase && p.hasHolds(s.Holds) && p.canBe(keyOf(s.Phase, s.Holds))
}

// hasParts reports whether map, walker and word are valid.
func (p Problem) hasParts() bool {
	return CheckMap(p.Map) == api.OK && CheckWalker(p.Walker) == api.OK && CheckWord(p.Walker.Legs, p.Word) == api.OK
}

// CheckProblem returns the error of a problem.
func CheckProblem(p Problem) api.Errno {
	if !Possible(p, State{Holds: p.Start}) || len(p.Goal) > 0 && !p.hasHolds(p.Goal) {
		return api.ErrArg
	}
	return api.OK
}

// Possible reports whether map, walker and word of a problem are valid, and the
// state is possible.
func Possible(p Problem, s State) bool { return p.hasParts() && p.isPossible(s) }

// isGoal reports whether a state of a valid problem is a goal.
func (p Problem) isGoal(k key) bool {
	holds := k[1 : 1+p.Walker.Legs]
	if len(p.Goal) > 0 {
		return k == keyOf(0, p.Goal)
	}
	isShort := func(h int) bool { return p.Map[h].At.X.Cmp(p.Target) < 0 }
	return k[0] == 0 && !slices.ContainsFunc(holds, isShort)
}
