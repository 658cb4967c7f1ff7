package balance

import (
	"amble/api"
	"amble/exact"
	"amble/hull"
	"amble/machine"
	"amble/pose"
)

// Balanced reports whether the numbers are forces with which the contacts hold
// the weight at x.
func Balanced(l []Contact, weight, x exact.Q, forces []exact.Q) bool {
	p, e := System(l, weight, x)
	return e == api.OK && hull.Has(p, forces)
}

// Forces returns the least forces with which the contacts hold the weight at x.
// There are such if there are any: no n is below 0, and no t below what
// friction allows for its n.
func Forces(l []Contact, weight, x exact.Q) ([]exact.Q, api.Errno) {
	p, e := System(l, weight, x)
	if e != api.OK {
		return nil, e
	}
	return hull.Least(p)
}

// Falls returns weights that show that the contacts cannot hold the weight at
// x.
func Falls(l []Contact, weight, x exact.Q) ([]exact.Q, api.Errno) {
	p, e := System(l, weight, x)
	if e != api.OK {
		return nil, e
	}
	return refute(p)
}

// Support returns the least and the greatest X at which the contacts can hold
// the weight, and whether there are such.
func Support(l []Contact, weight exact.Q) (low, high exact.Q, below, above bool, e api.Errno) {
	s, e := stand(l, weight)
	if e != api.OK {
		return low, high, false, false, e
	}
	place := s.moment()
	for i := range place {
		place[i] = over(place[i], weight)
	}
	return hull.Bounds(place, s.holding())
}

// Contacts returns a contact for each point of a foot that is on the ground.
func Contacts(m machine.Machine, p pose.Pose, g pose.Ground) ([]Contact, api.Errno) {
	gaps, e := pose.Gaps(m, p, g)
	if e != api.OK {
		return nil, e
	}
	var l []Contact
	soles, _ := pose.Soles(m, p)
	for foot, sole := range soles {
		for item, at := range sole {
			switch gaps[foot][item].Sign() {
			case -1:
				return nil, api.ErrState
			case 0:
				along, _ := pose.Along(g, at.X)
				l = append(l, Contact{At: at, Ground: along, Friction: m.Feet[foot].Friction})
			}
		}
	}
	return l, api.OK
}

// Stands reports whether the contacts of a machine can hold it.
func Stands(m machine.Machine, p pose.Pose, g pose.Ground) (bool, api.Errno) {
	l, e := Contacts(m, p, g)
	if e != api.OK {
		return false, e
	}
	weight, _ := machine.Weight(m)
	centre, _ := pose.Centre(m, p)
	switch _, e := Falls(l, weight, centre.X); e {
	case api.OK:
		return false, api.OK
	case api.ErrNone:
		return true, api.OK
	default:
		return false, e
	}
}
