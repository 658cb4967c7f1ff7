package balance_test

import (
	"amble/api"
	"amble/balance"
	"amble/exact"
	"amble/hull"
	"amble/machine"
	"amble/pose"
)

// source gives numbers that look random; the same ones in each run.
type source uint64

func (s *source) next() uint64 {
	*s += 0x9e3779b97f4a7c15
	x := uint64(*s)
	x = (x ^ x>>30) * 0xbf58476d1ce4e5b9
	x = (x ^ x>>27) * 0x94d049bb133111eb
	return x ^ x>>31
}

func (s *source) below(n int) int { return int(s.next() % uint64(n)) }

// number returns a number from -5 to 5, often an integer.
func (s *source) number() exact.Q {
	under := int64(1)
	if s.below(2) == 0 {
		under = int64(2 + s.below(4))
	}
	q, _ := exact.Of(int64(s.below(int(10*under+1)))-5*under, under)
	return q
}

// positive returns a number above 0.
func (s *source) positive() exact.Q { return s.number().Abs().Add(num("1/7")) }

// part returns a number from 0 to 1, often one of the ends.
func (s *source) part() exact.Q { return nums("0 0 1 1 1/2 1/3 3/4 1/10")[s.below(8)] }

// between returns a number from low to high, often one of them.
func (s *source) between(low, high exact.Q) exact.Q {
	return low.Add(high.Sub(low).Mul(s.part()))
}

func (s *source) point() exact.Point { return exact.Point{X: s.number(), Z: s.number()} }

func (s *source) numbers(n int) []exact.Q {
	l := make([]exact.Q, n)
	for i := range l {
		l[i] = s.number()
	}
	return l
}

// friction returns a number that is not below 0, now and then 0.
func (s *source) friction() exact.Q { return nums("0 1/4 1/2 1 2 3/7")[s.below(6)] }

// ground returns the direction of a ground: mostly one that leads forward.
func (s *source) ground() exact.Point {
	p := first(s.point, func(p exact.Point) bool { return p.X.Sign() != 0 || p.Z.Sign() != 0 })
	if p.X.Sign() < 0 && s.below(8) > 0 {
		return p.Scale(num("-1"))
	}
	return p
}

func (s *source) contact() balance.Contact {
	c := balance.Contact{At: s.point(), Ground: s.ground(), Friction: s.friction()}
	if s.below(3) == 0 {
		c.Most = s.positive().Mul(num("2"))
	}
	return c
}

func (s *source) contacts(n int) []balance.Contact {
	l := make([]balance.Contact, n)
	for i := range l {
		l[i] = s.contact()
	}
	return l
}

// stance is contacts with a weight.
type stance struct {
	l      []balance.Contact
	weight exact.Q
}

func (x stance) text() string { return contactsText(x.l) + " under " + x.weight.Text() }

// stance returns any with at most so many contacts.
func (s *source) stance(most int) stance {
	return stance{s.contacts(s.below(most + 1)), s.positive()}
}

// first returns the first of what is made that is right. It is found soon, or
// what is tested is wrong.
func first[T any](made func() T, isRight func(T) bool) T {
	for range 1000 {
		if x := made(); isRight(x) {
			return x
		}
	}
	panic("nothing that is right")
}

// sure returns a stance that can hold its weight somewhere.
func (s *source) sure(most int) stance {
	return first(func() stance { return s.stance(most) }, func(x stance) bool {
		_, _, _, _, e := balance.Support(x.l, x.weight)
		return e == api.OK
	})
}

// bounded returns a stance that can hold its weight in a range of places.
func (s *source) bounded(most int) stance {
	return first(func() stance { return s.sure(most) }, func(x stance) bool {
		_, _, below, above, _ := balance.Support(x.l, x.weight)
		return below && above
	})
}

// pendulum returns any valid one; many of them have capture sets with points.
func (s *source) pendulum() balance.Pendulum {
	p := balance.Pendulum{Grow: nums("1/3 1/2 1/5 3/7 9/10 1/100")[s.below(6)]}
	foot, room := s.part(), s.positive()
	p.Heel = s.number().Mul(num("1/10"))
	p.Toe = p.Heel.Add(foot)
	p.Near = p.Heel.Sub(room.Mul(s.part()))
	p.Far = p.Toe.Add(room.Mul(s.part()))
	p.Short = s.number().Mul(num("1/4"))
	p.Long = p.Short.Add(s.positive().Mul(s.part()))
	p.Push = foot.Mul(nums("0 0 1/10 1/20 1/3 2")[s.below(6)])
	return p
}

// handy returns a pendulum whose capture set of k has more than one point.
func (s *source) handy(k int) balance.Pendulum {
	return first(s.pendulum, func(p balance.Pendulum) bool {
		c, _ := balance.Capture(p, k)
		n, _ := hull.Dim(c)
		return n > 0
	})
}

// inside returns a point of a bounded polyhedron: often a corner, or between
// two of them.
func (s *source) inside(p hull.Poly) balance.State {
	corners, _, _ := hull.Corners(p)
	a, b := corners[s.below(len(corners))], corners[s.below(len(corners))]
	part := s.part()
	mix := func(i int) exact.Q { return a[i].Add(b[i].Sub(a[i]).Mul(part)) }
	return balance.State{X: mix(0), V: mix(1)}
}

// nearby returns a state in the bounds of a pendulum or not far from them.
func (s *source) nearby(p balance.Pendulum) balance.State {
	x := s.between(p.Near, p.Far)
	if s.below(8) == 0 {
		x = x.Add(s.number())
	}
	return balance.State{X: x, V: s.between(p.Near, p.Far).Sub(x).Add(s.number().Mul(s.part()))}
}

// pushes returns so many of the interval.
func (s *source) pushes(p balance.Pendulum, n int) []exact.Q {
	var l []exact.Q
	for range n {
		l = append(l, s.between(p.Push.Neg(), p.Push))
	}
	return l
}

// landscape returns any valid ground.
func (s *source) landscape() pose.Ground {
	g := pose.Ground{s.point()}
	for range 1 + s.below(5) {
		g = append(g, exact.Point{X: g[len(g)-1].X.Add(s.positive()), Z: s.number()})
	}
	return g
}

// settled returns a machine of two bodies, and a pose in which the points of
// its feet are on the ground, or above it; of those at a height below 0 one is
// below it.
func (s *source) settled(g pose.Ground, feet int, heights string) (machine.Machine, pose.Pose) {
	m := machine.Machine{Name: "m", Bodies: []machine.Body{
		{Name: "trunk", Parent: -1, Mass: s.positive(), Inertia: num("1"), Centre: s.point()},
		{Name: "leg", At: s.point(), Mass: s.positive(), Inertia: num("1"), Centre: s.point(), Low: num("-1"), High: num("1")},
	}}
	p := pose.Pose{At: s.point(), Turn: s.number(), Joints: []exact.Q{s.number()}}
	frames, _ := pose.Frames(m, p)
	all := nums(heights)
	for range feet {
		f := machine.Foot{Body: s.below(2), Friction: s.friction()}
		first := s.number()
		for _, x := range []exact.Q{first, first.Add(s.positive())}[s.below(2):] {
			z, _ := pose.Height(g, x)
			place := exact.Point{X: x, Z: z.Add(all[s.below(len(all))])}
			frame := frames[f.Body]
			f.Points = append(f.Points, place.Sub(frame.At).Turn(frame.Rot.Back()))
		}
		m.Feet = append(m.Feet, f)
	}
	return m, p
}
