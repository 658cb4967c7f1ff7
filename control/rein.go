package control

import (
	"amble/api"
	"amble/exact"
)

// joint is a valid rein with a delay.
type joint struct {
	Rein
	delay exact.Q
}

// guard returns the joint of a rein.
func guard(r Rein, delay int) (joint, api.Errno) {
	switch {
	case r.Low.Cmp(r.High) > 0 || r.Most.Sign() <= 0 || r.Step.Sign() <= 0:
		return joint{}, api.ErrArg
	case delay < 0 || delay > api.MaxDelay:
		return joint{}, api.ErrRange
	}
	return joint{r, exact.Int(int64(delay))}, api.OK
}

// cut returns how much a speed can be changed in a cycle.
func (j joint) cut() exact.Q { return j.Step.Mul(j.Most) }

// half returns the half of a number.
func half(q exact.Q) exact.Q { return over(q, exact.Int(2)) }

// stop returns the way to stop from a speed that is not below 0: in n cycles,
// behind which less than what is cut in one is left of it.
func (j joint) stop(speed exact.Q) exact.Q {
	n := over(speed, j.cut()).Floor()
	lost := half(n.Mul(n.Add(exact.Int(1)))).Mul(j.cut())
	return j.Step.Mul(n.Mul(speed).Sub(lost))
}

// way returns how far one may come with a speed: through the delay, and then
// until it is 0. It is 0 for a speed that is not above 0.
func (j joint) way(speed exact.Q) exact.Q {
	speed = exact.Max(speed, exact.Q{})
	return j.delay.Mul(j.Step).Mul(speed).Add(j.stop(speed))
}

// isSafe reports whether place and speed are safe. As a way is never below 0,
// the place itself is between the limits if its ends are.
func (j joint) isSafe(place, speed exact.Q) bool {
	return place.Add(j.way(speed)).Cmp(j.High) <= 0 && place.Sub(j.way(speed.Neg())).Cmp(j.Low) >= 0
}

// Safe reports whether place and speed are safe.
func Safe(r Rein, place, speed exact.Q, delay int) (bool, api.Errno) {
	j, e := guard(r, delay)
	return e == api.OK && j.isSafe(place, speed), e
}

// fastest returns the greatest speed whose next cycle, and its way after that,
// are together at most room, which is not below 0. The way grows with the speed,
// by straight pieces: from n cuts on, a speed of 1 more takes 1 + delay + n
// steps more. Up to n cuts it takes half of n (n + 1 + 2 delay) times a step and
// a cut; n is the greatest integer for which that is at most room.
func (j joint) fastest(room exact.Q) exact.Q {
	one, more := exact.Int(1), exact.Int(1).Add(j.delay).Add(j.delay)
	pieces := over(room, j.Step.Mul(j.cut()))
	root, _ := more.Mul(more).Add(exact.Int(8).Mul(pieces)).Root(0)
	n := half(root.Sub(more)).Floor()
	slow := n.Mul(j.cut())
	rest := room.Sub(j.Step.Mul(slow)).Sub(j.way(slow))
	return slow.Add(over(rest, exact.Sum(one, j.delay, n).Mul(j.Step)))
}

// bounded returns the acceleration that brings a speed to another one, or as
// near to it as possible.
func (j joint) bounded(speed, to exact.Q) exact.Q {
	return between(j.Most.Neg(), over(to.Sub(speed), j.Step), j.Most)
}

// hold returns the held acceleration for a place and a speed that are safe. A
// speed after the cycle that is too great for one of the limits, and each one
// beyond it, is not safe; all others are.
func (j joint) hold(place, speed, wanted exact.Q) exact.Q {
	high := j.fastest(j.High.Sub(place))
	low := j.fastest(place.Sub(j.Low)).Neg()
	return between(j.bounded(speed, low), wanted, j.bounded(speed, high))
}

// enter returns the joint of a rein whose place and speed are safe.
func enter(r Rein, place, speed exact.Q, delay int) (joint, api.Errno) {
	j, e := guard(r, delay)
	switch {
	case e != api.OK:
		return joint{}, e
	case !j.isSafe(place, speed):
		return joint{}, api.ErrState
	}
	return j, api.OK
}

// Hold returns the held acceleration.
func Hold(r Rein, place, speed, wanted exact.Q, delay int) (exact.Q, api.Errno) {
	j, e := enter(r, place, speed, delay)
	if e != api.OK {
		return exact.Q{}, e
	}
	return j.hold(place, speed, wanted), api.OK
}

// drive goes through the cycles.
func (j joint) drive(place, speed exact.Q, wanted []exact.Q, f Lost) []Motion {
	var motions []Motion
	for i, want := range wanted {
		var accel exact.Q
		switch {
		case f.Long == 0 || i < f.At:
			accel = j.hold(place, speed, want)
		case i-f.At >= f.Long:
			accel = j.bounded(speed, exact.Q{})
		}
		speed = speed.Add(j.Step.Mul(accel))
		place = place.Add(j.Step.Mul(speed))
		motions = append(motions, Motion{accel, speed, place})
	}
	return motions
}

// Drive returns for each cycle the acceleration, and speed and place after it.
func Drive(r Rein, place, speed exact.Q, wanted []exact.Q, delay int, f Lost) ([]Motion, api.Errno) {
	j, e := enter(r, place, speed, delay)
	switch {
	case e != api.OK:
		return nil, e
	case len(wanted) > api.MaxCycles:
		return nil, api.ErrLimit
	case f.At < 0 || f.Long < 0 || f.Long > delay:
		return nil, api.ErrArg
	}
	return j.drive(place, speed, wanted, f), api.OK
}
