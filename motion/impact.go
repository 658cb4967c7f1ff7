package motion

import (
	"amble/api"
	"amble/contact"
	"amble/exact"
)

// step is one that begins in a scene, with torques.
type step struct {
	scene
	torques []exact.Q
}

// checkTorques returns the error of the torques.
func (s step) checkTorques() api.Errno {
	if len(s.torques) != len(s.Machine.Motors) {
		return api.ErrArg
	}
	for i, m := range s.Machine.Motors {
		if s.torques[i].Abs().Cmp(m.Torque) > 0 {
			return api.ErrRange
		}
	}
	return api.OK
}

// forces returns the forces and the torques on all bodies.
func (s step) forces() []exact.Q {
	return s.list(func(l []exact.Q) {
		for i, b := range s.Machine.Bodies {
			s.press(l, i, s.At[i], exact.Point{Z: b.Mass.Mul(s.Gravity).Neg()})
		}
		for _, spring := range s.Machine.Springs {
			k := s.join(spring.A, spring.From, spring.B, spring.To)
			s.pull(l, k, k.span().Scale(spring.Stiff))
		}
		for i, m := range s.Machine.Motors {
			s.twist(l, m.Body, s.torques[i])
		}
	})
}

// masses returns what resists the change of each number of the velocities.
func (s scene) masses() []exact.Q {
	var l []exact.Q
	for _, b := range s.Machine.Bodies {
		l = append(l, b.Mass, b.Mass, b.Inertia)
	}
	return l
}

// pushed returns the velocities after the forces have worked for a step.
func (s step) pushed() []exact.Q {
	l, forces := s.masses(), s.forces()
	for i, mass := range l {
		l[i] = s.Speed[i].Add(over(s.Step.Mul(forces[i]), mass))
	}
	return l
}

// diagonal returns the matrix with these numbers in the diagonal.
func diagonal(l []exact.Q) exact.Mat {
	m := make(exact.Mat, len(l))
	for i, number := range l {
		m[i] = make([]exact.Q, len(l))
		m[i][i] = number
	}
	return m
}

// bonds returns the rows that keep each body at the place of its hinge.
func (s scene) bonds() exact.Mat {
	var rows exact.Mat
	for body := 1; body < len(s.Machine.Bodies); body++ {
		hinge := s.hinge(body)
		for _, direction := range []exact.Point{{X: exact.Int(1)}, {Z: exact.Int(1)}} {
			rows = append(rows, s.list(func(row []exact.Q) { s.pull(row, hinge, direction) }))
		}
	}
	return rows
}

// impact returns that of the step, with its touches.
func (s step) impact() (contact.System, []touching, api.Errno) {
	if e := s.checkTorques(); e != api.OK {
		return contact.System{}, nil, e
	}
	var touches []touching
	var rows exact.Mat
	var frictions []exact.Q
	for t := range s.touches() {
		touches = append(touches, t)
		rows = append(rows, s.list(t.normal), s.list(t.tangent))
		frictions = append(frictions, t.friction)
	}
	if len(touches) > api.MaxTouch {
		return contact.System{}, nil, api.ErrLimit
	}
	system, e := contact.Assemble(diagonal(s.masses()), s.bonds(), rows, s.pushed(), frictions, s.E)
	return system, touches, e
}

// bare returns the touches alone.
func bare(touches []touching) []Touch {
	var l []Touch
	for _, t := range touches {
		l = append(l, t.Touch)
	}
	return l
}

// Impact returns the impact of a state with torques, and the touches.
func Impact(w World, s State, torques []exact.Q) (contact.System, []Touch, api.Errno) {
	now, e := enter(w, s)
	if e != api.OK {
		return contact.System{}, nil, e
	}
	system, touches, e := step{now, torques}.impact()
	return system, bare(touches), e
}
