package wear_test

import (
	"amble/exact"
	"amble/wear"
)

// source gives numbers that look random; the same ones in each run.
type source uint64

func (s *source) next() uint64 {
	*s += 0x9e3779b97f4a7c15
	x := uint64(*s)
	x = (x ^ x>>30) * 0xbf58476d1ce4e5b9
	x = (x ^ x>>27) * 0x94d049bb133111eb
	return x ^ x>>31
}

func (s *source) below(n int) int { return int(s.next() % uint64(n)) }

// chance reports true about once in n times.
func (s *source) chance(n int) bool { return s.below(n) == 0 }

// one returns one of the numbers of a text.
func (s *source) one(text string) exact.Q {
	l := nums(text)
	return l[s.below(len(l))]
}

// number returns a number from -5 to 5, often an integer.
func (s *source) number() exact.Q {
	under := int64(1)
	if s.chance(3) {
		under = int64(2 + s.below(4))
	}
	q, _ := exact.Of(int64(s.below(int(10*under+1)))-5*under, under)
	return q
}

// numbers returns so many.
func (s *source) numbers(n int) []exact.Q {
	l := make([]exact.Q, n)
	for i := range l {
		l[i] = s.number()
	}
	return l
}

// rising returns so many numbers that strictly rise.
func (s *source) rising(n int) []exact.Q {
	l := s.numbers(n)
	for i := range l {
		if i > 0 {
			l[i] = l[i-1].Add(s.one("1 2 1/2 1/3 5"))
		}
	}
	return l
}

// coarse returns one of few numbers, so that several are often equal.
func (s *source) coarse() exact.Q { return exact.Int(int64(s.below(4))) }

func (s *source) sample() wear.Sample {
	return wear.Sample{Load: s.coarse(), Angle: s.coarse(), Speed: s.coarse()}
}

// samples returns so many; often one is the same as the one before.
func (s *source) samples(n int) []wear.Sample {
	var l []wear.Sample
	for i := range n {
		l = append(l, s.sample())
		if i > 0 && s.below(3) > 0 {
			l[i] = l[i-1]
		}
	}
	return l
}

// around returns the least box of some samples.
func around(l ...wear.Sample) wear.Box {
	low, high := sides(l[0]), sides(l[0])
	for _, s := range l {
		for i, q := range sides(s) {
			low[i], high[i] = exact.Min(low[i], q), exact.Max(high[i], q)
		}
	}
	return wear.Box{Low: sampleOf(low), High: sampleOf(high)}
}

// box returns one that is valid, now and then of a single sample.
func (s *source) box() wear.Box { return around(s.samples(1 + s.below(4))...) }

// guard returns one that is valid.
func (s *source) guard() wear.Guard {
	g := wear.Guard{From: uint8(s.below(5)), To: uint8(s.below(5)), Box: s.box(), Hold: 1 + s.below(4)}
	if g.From == g.To {
		g.To = (g.To + 1) % 5
	}
	return g
}

func (s *source) curve() wear.Curve {
	var c wear.Curve
	for _, x := range s.rising(1 + s.below(5)) {
		c = append(c, exact.Point{X: x, Z: s.number()})
	}
	return c
}

func (s *source) limit() wear.Limit {
	return wear.Limit{Moment: s.number().Abs().Mul(s.one("0 1 1 10")), Rate: s.number().Abs().Mul(s.one("0 1 1 1/4"))}
}

// device returns one that is valid.
func (s *source) device() wear.Device {
	d := wear.Device{Step: s.one("1 1/2 1/100")}
	for range s.below(12) {
		d.Guards = append(d.Guards, s.guard())
	}
	for range names {
		d.Curves, d.Limits = append(d.Curves, s.curve()), append(d.Limits, s.limit())
	}
	return d
}

// walker returns one that often comes from phase to phase.
func (s *source) walker() wear.Device {
	d := s.device()
	d.Guards = nil
	for from := range uint8(5) {
		for range 1 + s.below(3) {
			g := s.guard()
			g.From = from
			if g.To == from {
				g.To = (from + 1) % 5
			}
			g.Hold = 1 + s.below(3)
			d.Guards = append(d.Guards, g)
		}
	}
	for i := len(d.Guards) - 1; i > 0; i-- {
		k := s.below(i + 1)
		d.Guards[i], d.Guards[k] = d.Guards[k], d.Guards[i]
	}
	return d
}

// records returns so many, of the first phases that there are.
func (s *source) records(n, phases int) []wear.Record {
	var l []wear.Record
	for range n {
		l = append(l, wear.Record{Phase: uint8(s.below(phases)), Sample: s.sample(), Moment: s.number()})
	}
	return l
}

// wishes returns so many records for a fit; often one has the angle of a knot.
func (s *source) wishes(n int, knots []exact.Q) []wear.Record {
	l := s.records(n, 5)
	for i := range l {
		l[i].Sample.Angle = s.number().Mul(s.one("1 1 2"))
		if s.chance(3) {
			l[i].Sample.Angle = knots[s.below(len(knots))]
		}
	}
	return l
}
