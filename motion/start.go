package motion

import (
	"amble/api"
	"amble/exact"
	"amble/machine"
	"amble/pose"
)

// launched returns the velocities of a body in a pose, which follow from the
// speeds of the machine.
func (w World) launched(p pose.Pose, speeds []exact.Q, body int) []exact.Q {
	jacobian, _ := pose.Jacobian(w.Machine, p, body, w.Machine.Bodies[body].Centre)
	velocity, _ := exact.Apply(jacobian, speeds)
	var turning exact.Q
	chain, _ := machine.Chain(w.Machine, body)
	for _, hinge := range chain {
		turning = turning.Add(speeds[2+hinge])
	}
	return append(velocity, turning)
}

// Start returns the state of the machine in a pose, with the speeds of its
// trunk and of its hinges.
func Start(w World, p pose.Pose, speeds []exact.Q) (State, api.Errno) {
	if e := Check(w); e != api.OK {
		return State{}, e
	}
	frames, e := pose.Frames(w.Machine, p)
	if e != api.OK || len(speeds) != len(frames)+2 {
		return State{}, api.ErrArg
	}
	s := State{Heat: make([]exact.Q, len(w.Machine.Motors))}
	for i, f := range frames {
		s.At = append(s.At, f.At.Add(w.Machine.Bodies[i].Centre.Turn(f.Rot)))
		s.Rot = append(s.Rot, f.Rot)
		s.Speed = append(s.Speed, w.launched(p, speeds, i)...)
	}
	return s, api.OK
}

// Pose returns the pose of a state: of its trunk, and of its hinges.
func Pose(w World, s State) (pose.Pose, api.Errno) {
	now, e := enter(w, s)
	if e != api.OK {
		return pose.Pose{}, e
	}
	turn, ok := now.Rot[0].Half()
	if !ok {
		return pose.Pose{}, api.ErrNone
	}
	p := pose.Pose{At: now.point(0, exact.Point{}), Turn: turn}
	for body := 1; body < len(now.Machine.Bodies); body++ {
		joint, ok := now.bend(body)
		if !ok {
			return pose.Pose{}, api.ErrNone
		}
		p.Joints = append(p.Joints, joint)
	}
	return p, api.OK
}
