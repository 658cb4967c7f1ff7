package motion

import (
	"iter"

	"amble/api"
	"amble/exact"
	"amble/pose"
)

// fill adds a row to a list of zeros.
type fill func(row []exact.Q)

// touching is a touch, and what an impact needs of it: what makes its rows, its
// friction, and the ground's direction at a sole.
type touching struct {
	Touch
	normal, tangent fill
	friction        exact.Q
	along           exact.Point
}

// upward returns the direction away from the ground that is as long as this one
// along it.
func upward(along exact.Point) exact.Point { return exact.Point{X: along.Z.Neg(), Z: along.X} }

// isDown reports whether a place is on the ground, or below it.
func (s scene) isDown(place exact.Point) bool {
	height, _ := pose.Height(s.Ground, place.X)
	return place.Z.Cmp(height) <= 0
}

func (s scene) sole(foot, item int, place exact.Point) touching {
	f := s.Machine.Feet[foot]
	along, _ := pose.Along(s.Ground, place.X)
	to := func(direction exact.Point) fill {
		return func(row []exact.Q) { s.press(row, f.Body, place, direction) }
	}
	return touching{Touch{Sole, foot, item, place}, to(upward(along)), to(along), f.Friction, along}
}

func (s scene) soles() iter.Seq[touching] {
	return func(yield func(touching) bool) {
		for foot, f := range s.Machine.Feet {
			for item, at := range f.Points {
				if place := s.point(f.Body, at); s.isDown(place) && !yield(s.sole(foot, item, place)) {
					return
				}
			}
		}
	}
}

// slippery returns a touch without friction: nothing moves it sideways.
func slippery(t Touch, normal fill) touching {
	return touching{Touch: t, normal: normal, tangent: func([]exact.Q) {}}
}

// stop returns the touch of a hinge at its lower limit, or, with the item 1, at
// its upper one.
func (s scene) stop(body, item int) touching {
	sign := exact.Int(int64(1 - 2*item))
	return slippery(Touch{Kind: Stop, Index: body, Item: item}, func(row []exact.Q) { s.twist(row, body, sign) })
}

func (s scene) stops() iter.Seq[touching] {
	return func(yield func(touching) bool) {
		for body := 1; body < len(s.Machine.Bodies); body++ {
			b := s.Machine.Bodies[body]
			bend, ok := s.bend(body)
			if ok && bend.Cmp(b.Low) <= 0 && !yield(s.stop(body, 0)) {
				return
			}
			if ok && bend.Cmp(b.High) >= 0 && !yield(s.stop(body, 1)) {
				return
			}
		}
	}
}

func (s scene) cord(tendon int, l link) touching {
	return slippery(Touch{Kind: Cord, Index: tendon}, func(row []exact.Q) { s.pull(row, l, l.span()) })
}

func (s scene) cords() iter.Seq[touching] {
	return func(yield func(touching) bool) {
		for tendon, t := range s.Machine.Tendons {
			l := s.join(t.A, t.From, t.B, t.To)
			if square(l.span()).Cmp(t.Length.Mul(t.Length)) >= 0 && !yield(s.cord(tendon, l)) {
				return
			}
		}
	}
}

// touches goes through all touches: of feet, of stops and of cords.
func (s scene) touches() iter.Seq[touching] {
	return func(yield func(touching) bool) {
		for _, some := range []iter.Seq[touching]{s.soles(), s.stops(), s.cords()} {
			for t := range some {
				if !yield(t) {
					return
				}
			}
		}
	}
}

// Touches returns the touches of a state.
func Touches(w World, s State) ([]Touch, api.Errno) {
	now, e := enter(w, s)
	if e != api.OK {
		return nil, e
	}
	var all []Touch
	for t := range now.touches() {
		all = append(all, t.Touch)
	}
	return all, api.OK
}
