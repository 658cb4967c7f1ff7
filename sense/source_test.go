package sense_test

import (
	"amble/api"
	"amble/exact"
	"amble/hull"
	"amble/sense"
)

// source gives numbers that look random; the same ones in each run.
type source uint64

func (s *source) next() uint64 {
	*s += 0x9e3779b97f4a7c15
	x := uint64(*s)
	x = (x ^ x>>30) * 0xbf58476d1ce4e5b9
	x = (x ^ x>>27) * 0x94d049bb133111eb
	return x ^ x>>31
}

func (s *source) below(n int) int { return int(s.next() % uint64(n)) }

// chance reports true about once in n times.
func (s *source) chance(n int) bool { return s.below(n) == 0 }

// one returns one of the numbers of a text.
func (s *source) one(text string) exact.Q {
	l := nums(text)
	return l[s.below(len(l))]
}

// number returns a number from -5 to 5, often an integer.
func (s *source) number() exact.Q {
	under := int64(1)
	if s.chance(3) {
		under = int64(2 + s.below(4))
	}
	q, _ := exact.Of(int64(s.below(int(10*under+1)))-5*under, under)
	return q
}

// numbers returns so many.
func (s *source) numbers(n int) []exact.Q {
	l := make([]exact.Q, n)
	for i := range l {
		l[i] = s.number()
	}
	return l
}

// part returns a number from 0 to 1, often one of the ends.
func (s *source) part() exact.Q { return s.one("0 0 1 1 1/2 1/3 3/4 1/10") }

// interval returns one that is valid, now and then a single number.
func (s *source) interval() sense.Interval {
	a, b := s.number(), s.number()
	if s.chance(5) {
		b = a
	}
	return sense.Interval{Low: exact.Min(a, b), High: exact.Max(a, b)}
}

// intervals returns so many; some are equal.
func (s *source) intervals(n int) []sense.Interval {
	var l []sense.Interval
	for i := range n {
		l = append(l, s.interval())
		if i > 0 && s.chance(6) {
			l[i] = l[s.below(i)]
		}
	}
	return l
}

// box returns one around the middle: each side may be missing if it may be open.
func (s *source) box(n int, mayBeOpen bool) hull.Poly {
	p := hull.Poly{N: n}
	for i := range n {
		ends := s.interval()
		if !mayBeOpen || s.below(5) > 0 {
			p.Rows = append(p.Rows, hull.Row{A: axis(n, i, num("1")), B: ends.High})
		}
		if !mayBeOpen || s.below(5) > 0 {
			p.Rows = append(p.Rows, hull.Row{A: axis(n, i, num("-1")), B: ends.Low.Neg()})
		}
	}
	if s.chance(12) {
		p.Rows = append(p.Rows, nothing(n).Rows...)
	}
	return p
}

// report returns a bounded polyhedron: a box with some rows more, seldom void.
func (s *source) report(n int) hull.Poly {
	p := hull.Poly{N: n}
	for i := range n {
		p.Rows = append(p.Rows,
			hull.Row{A: axis(n, i, num("1")), B: s.one("1 2 3 4")},
			hull.Row{A: axis(n, i, num("-1")), B: s.one("0 1 2 -1/2")})
	}
	for range s.below(3) {
		p.Rows = append(p.Rows, hull.Row{A: s.numbers(n), B: s.number().Abs()})
	}
	if s.chance(15) {
		p.Rows = append(p.Rows, nothing(n).Rows...)
	}
	return p
}

// reports returns so many.
func (s *source) reports(count, n int) []hull.Poly {
	var l []hull.Poly
	for range count {
		l = append(l, s.report(n))
	}
	return l
}

// model returns one of a dimension, with bounded noise; some matrices are
// singular.
func (s *source) model(n int) sense.Model {
	m := sense.Model{B: s.numbers(n)}
	for range n {
		row := s.numbers(n)
		if len(m.A) > 0 && s.chance(4) {
			copy(row, m.A[0])
		}
		m.A = append(m.A, row)
	}
	m.Noise = first(func() hull.Poly { return s.report(n) }, func(p hull.Poly) bool { return !isVoid(p) })
	if s.chance(3) {
		m.Noise = point(s.numbers(n)...)
	}
	return m
}

// isVoid reports whether a polyhedron has no point.
func isVoid(p hull.Poly) bool {
	dim, _ := hull.Dim(p)
	return dim < 0
}

// first returns the first of what is made that is right. It is found soon, or
// what is tested is wrong.
func first[T any](made func() T, isRight func(T) bool) T {
	for range 1000 {
		if x := made(); isRight(x) {
			return x
		}
	}
	panic("nothing that is right")
}

// inside returns a point between the corners of a bounded polyhedron that is not
// void.
func (s *source) inside(p hull.Poly) []exact.Q {
	points, _, e := hull.Corners(p)
	if e != api.OK || len(points) == 0 {
		panic("no corners")
	}
	x := points[s.below(len(points))]
	for range s.below(3) {
		other, part := points[s.below(len(points))], s.part()
		mixed := make([]exact.Q, len(x))
		for i := range x {
			mixed[i] = x[i].Add(other[i].Sub(x[i]).Mul(part))
		}
		x = mixed
	}
	return x
}

// touches returns so many; often the switch is right.
func (s *source) touches(n int) []sense.Touch {
	var l []sense.Touch
	for range n {
		t := sense.Touch{Gap: s.interval(), Says: s.chance(2)}
		if s.chance(3) {
			t.Gap.Low = exact.Min(t.Gap.Low, exact.Q{})
			t.Gap.High = exact.Q{}
		}
		if s.chance(3) {
			t.Gap.High = exact.Max(t.Gap.High, exact.Q{})
			t.Gap.Low = exact.Q{}
		}
		l = append(l, t)
	}
	return l
}

// soil returns one that is valid.
func (s *source) soil() sense.Soil {
	give := s.number().Abs().Mul(s.one("0 1 1/10 1/100"))
	sink := give.Add(s.number().Abs().Mul(s.one("0 1 1/10")))
	return sense.Soil{Give: give, Sink: sink, Yield: s.load()}
}

// load returns a number from 0 on, now and then 0.
func (s *source) load() exact.Q { return s.number().Abs().Mul(s.one("0 1 1 10 100")) }

// loads returns so many; some are equal.
func (s *source) loads(n int) []exact.Q {
	var l []exact.Q
	for i := range n {
		l = append(l, s.load())
		if i > 0 && s.chance(4) {
			l[i] = l[s.below(i)]
		}
	}
	return l
}

// measured returns records of the depths of a soil, each with an error of at
// most tolerance.
func (s *source) measured(own sense.Soil, loads []exact.Q, tolerance exact.Q) []sense.Record {
	depths, _ := sense.Press(own, loads)
	var l []sense.Record
	for i, load := range loads {
		off := tolerance.Mul(s.one("0 1 -1 1/2 -1/3"))
		l = append(l, sense.Record{Load: load, Depth: depths[i].Add(off)})
	}
	return l
}

// soils returns a bounded set of pairs (Give, Sink) of soils, and its corners.
func (s *source) soils() (hull.Poly, [][]exact.Q) {
	var points [][]exact.Q
	for range 1 + s.below(5) {
		own := s.soil()
		points = append(points, []exact.Q{own.Give, own.Sink})
	}
	set, _ := hull.Hull(2, points, nil)
	return set, points
}
