package pose

import (
	"iter"

	"amble/api"
	"amble/exact"
	"amble/machine"
)

// placed is a valid machine in a pose that fits it. frame returns the frame of
// a body.
type placed struct {
	machine.Machine
	Pose
	frame func(body int) Frame
}

// Check returns the error of the machine, and ErrArg if the pose does not fit
// it.
func Check(m machine.Machine, p Pose) api.Errno {
	if e := machine.Check(m); e != api.OK {
		return e
	}
	if len(p.Joints) != len(m.Bodies)-1 {
		return api.ErrArg
	}
	return api.OK
}

// place returns the machine in the pose, or the error of Check.
func place(m machine.Machine, p Pose) (placed, api.Errno) {
	if e := Check(m, p); e != api.OK {
		return placed{}, e
	}
	return placed{m, p, framer(m, p)}, api.OK
}

// placeBody is place, with ErrRange if the machine has no such body.
func placeBody(m machine.Machine, p Pose, body int) (placed, api.Errno) {
	q, e := place(m, p)
	if e != api.OK {
		return placed{}, e
	}
	if body < 0 || body >= len(q.Bodies) {
		return placed{}, api.ErrRange
	}
	return q, api.OK
}

// framer returns what computes the frame of a body, and each frame only once.
func framer(m machine.Machine, p Pose) func(int) Frame {
	known := map[int]Frame{0: {p.At, exact.Turn(p.Turn)}}
	var frame func(int) Frame
	frame = func(body int) Frame {
		f, ok := known[body]
		if !ok {
			b := m.Bodies[body]
			parent := frame(b.Parent)
			f = Frame{parent.world(b.At), parent.Rot.Then(exact.Turn(p.Joints[body-1]))}
			known[body] = f
		}
		return f
	}
	return frame
}

// world returns the world point of a point in the frame.
func (f Frame) world(at exact.Point) exact.Point { return f.At.Add(at.Turn(f.Rot)) }

// world returns the world point of a point of a body.
func (p placed) world(body int, at exact.Point) exact.Point { return p.frame(body).world(at) }

// worldAll returns the world points of points of a body.
func (p placed) worldAll(body int, points []exact.Point) []exact.Point {
	l := make([]exact.Point, len(points))
	for i, at := range points {
		l[i] = p.world(body, at)
	}
	return l
}

// upward gives a body, its parent, and so on up to the trunk.
func (p placed) upward(body int) iter.Seq[int] {
	return func(yield func(int) bool) {
		for i := body; i >= 0; i = p.Bodies[i].Parent {
			if !yield(i) {
				return
			}
		}
	}
}

// Frames returns the frames of all bodies.
func Frames(m machine.Machine, p Pose) ([]Frame, api.Errno) {
	q, e := place(m, p)
	if e != api.OK {
		return nil, e
	}
	frames := make([]Frame, len(q.Bodies))
	for i := range frames {
		frames[i] = q.frame(i)
	}
	return frames, api.OK
}

// World returns the world point of a point of a body.
func World(m machine.Machine, p Pose, body int, at exact.Point) (exact.Point, api.Errno) {
	q, e := placeBody(m, p, body)
	if e != api.OK {
		return exact.Point{}, e
	}
	return q.world(body, at), api.OK
}

// shapes returns the world points of the shape of each body.
func (p placed) shapes() [][]exact.Point {
	shapes := make([][]exact.Point, len(p.Bodies))
	for i, b := range p.Bodies {
		shapes[i] = p.worldAll(i, b.Shape)
	}
	return shapes
}

// Shapes returns the world points of the shape of each body.
func Shapes(m machine.Machine, p Pose) ([][]exact.Point, api.Errno) {
	q, e := place(m, p)
	if e != api.OK {
		return nil, e
	}
	return q.shapes(), api.OK
}

// soles returns the world points of each foot.
func (p placed) soles() [][]exact.Point {
	soles := make([][]exact.Point, len(p.Feet))
	for i, f := range p.Feet {
		soles[i] = p.worldAll(f.Body, f.Points)
	}
	return soles
}

// Soles returns the world points of each foot.
func Soles(m machine.Machine, p Pose) ([][]exact.Point, api.Errno) {
	q, e := place(m, p)
	if e != api.OK {
		return nil, e
	}
	return q.soles(), api.OK
}
