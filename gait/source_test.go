package gait_test

import (
	"slices"

	"amble/api"
	"amble/balance"
	"amble/exact"
	"amble/gait"
	"amble/hull"
)

// source gives numbers that look random; the same ones in each run.
type source uint64

func (s *source) next() uint64 {
	*s += 0x9e3779b97f4a7c15
	x := uint64(*s)
	x = (x ^ x>>30) * 0xbf58476d1ce4e5b9
	x = (x ^ x>>27) * 0x94d049bb133111eb
	return x ^ x>>31
}

func (s *source) below(n int) int { return int(s.next() % uint64(n)) }

// chance reports true about once in n times.
func (s *source) chance(n int) bool { return s.below(n) == 0 }

// one returns one of the numbers of a text.
func (s *source) one(text string) exact.Q {
	l := nums(text)
	return l[s.below(len(l))]
}

// number returns a number from -5 to 5, often an integer.
func (s *source) number() exact.Q {
	under := int64(1)
	if s.chance(2) {
		under = int64(2 + s.below(4))
	}
	q, _ := exact.Of(int64(s.below(int(10*under+1)))-5*under, under)
	return q
}

// positive returns a number above 0.
func (s *source) positive() exact.Q { return s.number().Abs().Add(num("1/7")) }

// part returns a number from 0 to 1, often one of the ends.
func (s *source) part() exact.Q { return s.one("0 0 1 1 1/2 1/3 3/4 1/10") }

// between returns a number from low to high, often one of them.
func (s *source) between(low, high exact.Q) exact.Q {
	return low.Add(high.Sub(low).Mul(s.part()))
}

// first returns the first of what is made that is right. It is found soon, or
// what is tested is wrong.
func first[T any](made func() T, isRight func(T) bool) T {
	for range 1000 {
		if x := made(); isRight(x) {
			return x
		}
	}
	panic("nothing that is right")
}

// closing returns a word of n phases that may not close: each phase differs
// from the one before in one leg.
func (s *source) closing(legs, n int) gait.Word {
	w := gait.Word{uint8(1 + s.below(1<<legs-1))}
	for len(w) < n {
		last := w[len(w)-1]
		w = append(w, first(func() uint8 { return last ^ 1<<s.below(legs) }, func(phase uint8) bool { return phase != 0 }))
	}
	return w
}

// word returns a valid word of n phases, or of any number if that is 0.
func (s *source) word(legs, n int) gait.Word {
	made := func() gait.Word {
		if n == 0 {
			return s.closing(legs, 2+2*s.below(4))
		}
		return s.closing(legs, n)
	}
	return first(made, func(w gait.Word) bool { return gait.CheckWord(legs, w) == api.OK })
}

// hold returns a foothold near the origin.
func (s *source) hold() gait.Hold {
	h := gait.Hold{At: exact.Point{X: s.one("0 1 2 3 4 5/2"), Z: s.one("0 0 0 1 1/2 -1")}}
	if s.chance(4) {
		h.Bearing = s.one("1 1/2 2/3 1/3")
	}
	if s.chance(3) {
		h.Cost = s.one("1 2 1/2")
	}
	return h
}

// land returns a map of n footholds.
func (s *source) land(n int) []gait.Hold {
	var m []gait.Hold
	for len(m) < n {
		m = append(m, first(s.hold, func(h gait.Hold) bool { return gait.CheckMap(append(slices.Clone(m), h)) == api.OK }))
	}
	return m
}

// walker returns one whose prices are such that many ways have the same cost.
func (s *source) walker(legs int) gait.Walker {
	return gait.Walker{
		Legs: legs, Long: s.one("1 2 2 3"), Up: s.one("0 1 1 2"), Down: s.one("0 1 1 2"), Span: s.one("0 1 2 3 4 4"),
		Weight: s.one("0 1 1"), PerLength: s.one("0 1 1/2"), PerRise: s.one("0 1 2"), PerPhase: s.one("1 1 1/2 2"),
	}
}

// footholds returns one of n footholds for each leg.
func (s *source) footholds(legs, n int) []int {
	l := make([]int, legs)
	for i := range l {
		l[i] = s.below(n)
	}
	return l
}

// problem returns a valid problem with two to four legs, in which there are at
// most about as many states as can be looked at pair by pair.
func (s *source) problem() gait.Problem {
	return first(func() gait.Problem {
		legs := ints("2 2 2 3 4")[s.below(5)]
		n := ints("0 0 6 4 3")[legs] + s.below(2)
		p := gait.Problem{Map: s.land(n), Walker: s.walker(legs), Word: s.word(legs, 0), Start: s.footholds(legs, n), Target: s.one("-3 2 2 5/2 3 4 9")}
		if s.chance(3) {
			p.Goal = s.footholds(legs, n)
		}
		return p
	}, func(p gait.Problem) bool { return gait.CheckProblem(p) == api.OK })
}

// pendulum returns any valid one.
func (s *source) pendulum() balance.Pendulum {
	p := balance.Pendulum{Grow: s.one("1/3 1/2 1/5 3/7 9/10 1/100")}
	p.Heel = s.number().Mul(num("1/10"))
	p.Toe = p.Heel.Add(s.part())
	p.Near = p.Heel.Sub(s.positive().Mul(s.part()))
	p.Far = p.Toe.Add(s.positive().Mul(s.part()))
	p.Short = s.number().Mul(num("1/4"))
	p.Long = p.Short.Add(s.positive().Mul(s.part()))
	p.Push = s.one("0 0 1/10 1/20 1/3 2")
	return p
}

// law returns any.
func (s *source) law() gait.Law {
	small := func() exact.Q { return s.number().Mul(s.one("0 1/20 1/5 1")) }
	return gait.Law{Pressure: small(), KX: small(), KV: small(), Step: small(), JX: small(), JV: small()}
}

// lawFor returns the law for which the return map of a pendulum is m and v.
func lawFor(p balance.Pendulum, m exact.Mat, v []exact.Q) gait.Law {
	one := num("1")
	ahead, _ := balance.Swing(p, balance.State{X: one}, exact.Q{})
	c, s := ahead.X, ahead.V
	rest := one.Sub(c)
	l := gait.Law{KX: one.Sub(over(m[1][0], s)), KV: over(c.Sub(m[1][1]), s), Pressure: over(v[1], s).Neg()}
	l.JX = c.Add(rest.Mul(l.KX)).Sub(m[0][0])
	l.JV = s.Add(rest.Mul(l.KV)).Sub(m[0][1])
	l.Step = rest.Mul(l.Pressure).Sub(v[0])
	return l
}

// rhythm is a pendulum with a law.
type rhythm struct {
	p balance.Pendulum
	l gait.Law
}

func (r rhythm) text() string { return pendulumText(r.p) + lawText(r.l) }

// rhythm returns a pendulum with room, and a law with any return map that has
// small numbers: many of them have basins.
func (s *source) rhythm() rhythm {
	p := pendulum("1/3 -1 1 -2 2 -2 2 0")
	p.Grow, p.Push = s.one("1/3 1/2 1/5"), s.one("0 1/10 1/20 1/30")
	p.Heel, p.Far, p.Long = s.one("-1 -1/2 -2/3"), s.one("2 1 3"), s.one("2 1 3/2")
	part := func() exact.Q { return s.one("0 0 1/2 -1/2 1/3 3/4 -1/5 1") }
	m := exact.Mat{{part(), part()}, {part(), part()}}
	return rhythm{p, lawFor(p, m, []exact.Q{s.one("0 1/10 -1/20"), s.one("0 0 1/10 -1/30")})}
}

// lively returns a rhythm whose allowed states are more than a point.
func (s *source) lively() rhythm {
	return first(s.rhythm, func(r rhythm) bool {
		set, _ := gait.Allowed(r.p, r.l)
		n, _ := hull.Dim(set)
		return n > 0
	})
}

// steady returns a rhythm with a basin, and that.
func (s *source) steady() (rhythm, hull.Poly) {
	var set hull.Poly
	r := first(s.rhythm, func(r rhythm) bool {
		var closed bool
		set, closed, _ = gait.Basin(r.p, r.l, api.MaxRounds)
		return closed
	})
	return r, set
}

// inside returns a point of a bounded polyhedron: often a corner, or between
// two of them.
func (s *source) inside(p hull.Poly) balance.State {
	corners, _, _ := hull.Corners(p)
	a, b := corners[s.below(len(corners))], corners[s.below(len(corners))]
	part := s.part()
	mix := func(i int) exact.Q { return a[i].Add(b[i].Sub(a[i]).Mul(part)) }
	return balance.State{X: mix(0), V: mix(1)}
}

// nearby returns a state in a bounded polyhedron, or not far from it.
func (s *source) nearby(p hull.Poly) balance.State {
	at := s.inside(p)
	if s.chance(3) {
		return at
	}
	by := s.one("1/1000000 1/50 1/5")
	return balance.State{X: at.X.Add(s.one("-1 0 1").Mul(by)), V: at.V.Add(s.one("-1 0 1").Mul(by))}
}

// pushes returns so many of the interval.
func (s *source) pushes(p balance.Pendulum, n int) []exact.Q {
	var l []exact.Q
	for range n {
		l = append(l, s.between(p.Push.Neg(), p.Push))
	}
	return l
}
