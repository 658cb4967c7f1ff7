package motion

import (
	"amble/api"
	"amble/exact"
)

// scene is a state that fits a valid world.
type scene struct {
	World
	State
}

// enter returns the scene of a world and a state, or the error of Fits.
func enter(w World, s State) (scene, api.Errno) {
	if e := Fits(w, s); e != api.OK {
		return scene{}, e
	}
	return scene{w, s}, api.OK
}

// part returns the three numbers of a body in a list that has three for each.
func part(l []exact.Q, body int) []exact.Q { return l[3*body : 3*body+3 : 3*body+3] }

// velocity returns that of a body's centre, and of its angle.
func (s State) velocity(body int) (exact.Point, exact.Q) {
	v := part(s.Speed, body)
	return exact.Point{X: v[0], Z: v[1]}, v[2]
}

// point returns the world point of a point of a body.
func (s scene) point(body int, at exact.Point) exact.Point {
	return s.At[body].Add(at.Sub(s.Machine.Bodies[body].Centre).Turn(s.Rot[body]))
}

// link leads from a place of a body to one of another body.
type link struct {
	a, b     int
	from, to exact.Point
}

// span returns the way from one end of a link to the other.
func (l link) span() exact.Point { return l.to.Sub(l.from) }

// join returns the link between two points of bodies.
func (s scene) join(a int, from exact.Point, b int, to exact.Point) link {
	return link{a, b, s.point(a, from), s.point(b, to)}
}

// anchors returns the link between the two that should be at one place in a
// hinge: the body's, and that of its parent.
func (s scene) anchors(body int) link {
	b := s.Machine.Bodies[body]
	return s.join(body, exact.Point{}, b.Parent, b.At)
}

// hinge returns the link of a body with its parent, at the place of the hinge.
func (s scene) hinge(body int) link {
	l := s.anchors(body)
	place := l.from.Add(l.to).Scale(half(exact.Int(1)))
	return link{l.a, l.b, place, place}
}

// bend returns the half tangent of the hinge of a body; false: it has none.
func (s scene) bend(body int) (exact.Q, bool) {
	parent := s.Machine.Bodies[body].Parent
	return s.Rot[parent].Back().Then(s.Rot[body]).Half()
}

// press adds to a list what a force on a body at a place is: the force, and the
// torque with which it turns the body. Read as a row, this gives the velocity
// of the place times the force.
func (s scene) press(l []exact.Q, body int, place, force exact.Point) {
	own := part(l, body)
	own[0] = own[0].Add(force.X)
	own[1] = own[1].Add(force.Z)
	own[2] = own[2].Add(place.Sub(s.At[body]).Cross(force))
}

// pull adds to a list a force on the first body of a link, and the opposite
// force on the other one.
func (s scene) pull(l []exact.Q, k link, force exact.Point) {
	s.press(l, k.a, k.from, force)
	s.press(l, k.b, k.to, exact.Point{}.Sub(force))
}

// twist adds to a list a torque on a body, and the opposite one on its parent.
func (s scene) twist(l []exact.Q, body int, torque exact.Q) {
	own, above := part(l, body), part(l, s.Machine.Bodies[body].Parent)
	own[2], above[2] = own[2].Add(torque), above[2].Sub(torque)
}

// list returns a new list with three numbers for each body, as fill fills it.
func (s scene) list(fill func(l []exact.Q)) []exact.Q {
	l := make([]exact.Q, 3*len(s.Machine.Bodies))
	fill(l)
	return l
}
