package motion_test

import (
	"strconv"

	"amble/api"
	"amble/exact"
	"amble/machine"
	"amble/motion"
	"amble/pose"
)

// source gives numbers that look random; the same ones in each run.
type source uint64

func (s *source) next() uint64 {
	*s += 0x9e3779b97f4a7c15
	x := uint64(*s)
	x = (x ^ x>>30) * 0xbf58476d1ce4e5b9
	x = (x ^ x>>27) * 0x94d049bb133111eb
	return x ^ x>>31
}

func (s *source) below(n int) int { return int(s.next() % uint64(n)) }

// number returns a number from -5 to 5, often an integer.
func (s *source) number() exact.Q {
	under := int64(1)
	if s.below(2) == 0 {
		under = int64(2 + s.below(4))
	}
	q, _ := exact.Of(int64(s.below(int(10*under+1)))-5*under, under)
	return q
}

// positive returns a number above 0.
func (s *source) positive() exact.Q { return s.number().Abs().Add(num("1/7")) }

// restitution returns a number from 0 to 1, often one of the ends.
func (s *source) restitution() exact.Q { return nums("0 0 0 1 1/2 3/4")[s.below(6)] }

// friction returns a number that is not below 0.
func (s *source) friction() exact.Q { return nums("0 1/4 1 1/2 2")[s.below(5)] }

func (s *source) point() exact.Point { return exact.Point{X: s.number(), Z: s.number()} }

func (s *source) numbers(n int) []exact.Q {
	l := make([]exact.Q, n)
	for i := range l {
		l[i] = s.number()
	}
	return l
}

// two returns two of n bodies.
func (s *source) two(n int) (a, b int) {
	a = s.below(n)
	return a, (a + 1 + s.below(n-1)) % n
}

// bodies returns those of a machine, hung on each other.
func (s *source) bodies(n int) []machine.Body {
	var l []machine.Body
	for i := range n {
		b := machine.Body{Name: "b" + strconv.Itoa(i), Parent: -1, Mass: s.positive(), Inertia: s.positive(), Centre: s.point()}
		if i > 0 {
			b.Parent, b.At, b.Low = max(s.below(i), s.below(i)), s.point(), s.number()
			b.High = b.Low.Add(s.number().Abs())
		}
		l = append(l, b)
	}
	return l
}

// machine returns any valid machine with so many bodies.
func (s *source) machine(n int) machine.Machine {
	m := machine.Machine{Name: "m" + strconv.Itoa(s.below(1000)), Bodies: s.bodies(n)}
	for range s.below(3) {
		first := s.point()
		l := []exact.Point{first, {X: first.X.Add(s.number()), Z: first.Z.Add(s.positive())}}
		m.Feet = append(m.Feet, machine.Foot{Body: s.below(n), Points: l[s.below(2):], Friction: s.friction()})
	}
	for range s.below(3) * min(1, n-1) {
		a, b := s.two(n)
		m.Tendons = append(m.Tendons, machine.Tendon{A: a, B: b, From: s.point(), To: s.point(), Length: s.positive().Add(s.positive())})
		a, b = s.two(n)
		m.Springs = append(m.Springs, machine.Spring{A: a, B: b, From: s.point(), To: s.point(), Stiff: s.number().Abs()})
	}
	for i := n - 1; i > 0; i-- {
		if s.below(2) == 0 {
			m.Motors = append(m.Motors, machine.Motor{Body: i, Torque: s.positive(), Heating: s.number().Abs(), Cooling: s.number().Abs(), Most: s.positive()})
		}
	}
	return m
}

// ground returns any valid ground.
func (s *source) ground() pose.Ground {
	g := pose.Ground{s.point()}
	for range 1 + s.below(4) {
		x := g[len(g)-1].X.Add(s.positive())
		g = append(g, exact.Point{X: x, Z: s.number()})
	}
	return g
}

// world returns any valid world with a machine of at most so many bodies.
func (s *source) world(most int) motion.World {
	step, _ := num("1").Div(exact.Int(int64(1 + s.below(20))))
	return motion.World{Machine: s.machine(1 + s.below(most)), Ground: s.ground(), Gravity: s.number().Abs(), Step: step, E: s.restitution()}
}

// pose returns any pose that fits a machine.
func (s *source) pose(m machine.Machine) pose.Pose {
	p := pose.Pose{At: s.point(), Turn: s.number()}
	for _, b := range m.Bodies[1:] {
		joint := s.number()
		switch s.below(6) {
		case 0:
			joint = b.Low
		case 1:
			joint = b.High
		case 2, 3:
			joint, _ = b.Low.Add(b.High).Div(num("2"))
		}
		p.Joints = append(p.Joints, joint)
	}
	return p
}

// state returns any state that fits a world; often the bodies meet at their
// hinges.
func (s *source) state(w motion.World) motion.State {
	n := len(w.Machine.Bodies)
	state, _ := motion.Start(w, s.pose(w.Machine), s.numbers(n+2))
	for i := range state.Heat {
		state.Heat[i] = s.number()
	}
	if s.below(3) > 0 {
		return state
	}
	for i := range n {
		state.At[i] = state.At[i].Add(s.point().Scale(num("1/50")))
		if s.below(4) == 0 {
			state.Rot[i] = []exact.Rot{rot("-1 0"), rot("0 1"), rot("0 -1"), rot("1 0")}[s.below(4)]
		}
	}
	state.Speed = s.numbers(3 * n)
	return state
}

// torques returns some that the motors can have.
func (s *source) torques(w motion.World) []exact.Q {
	var l []exact.Q
	for _, m := range w.Machine.Motors {
		part, _ := s.number().Div(num("5"))
		l = append(l, m.Torque.Mul(part))
	}
	return l
}

// moment is a state of a world, and the torques of a step.
type moment struct {
	w       motion.World
	s       motion.State
	torques []exact.Q
}

// moment returns one with at least so many touches, and no more than an impact
// may have.
func (s *source) moment(bodies, touches int) moment {
	for {
		w := s.world(bodies)
		m := moment{w, s.state(w), s.torques(w)}
		l, _ := motion.Touches(w, m.s)
		if len(l) >= touches && len(l) <= api.MaxTouch {
			return m
		}
	}
}
