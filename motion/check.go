package motion

import (
	"slices"

	"amble/api"
	"amble/exact"
	"amble/machine"
	"amble/pose"
)

// Check returns the error of a world.
func Check(w World) api.Errno {
	if e := machine.Check(w.Machine); e != api.OK {
		return e
	}
	if e := pose.CheckGround(w.Ground); e != api.OK {
		return e
	}
	if w.Gravity.Sign() < 0 || w.Step.Sign() <= 0 || w.E.Sign() < 0 || w.E.Cmp(exact.Int(1)) > 0 {
		return api.ErrArg
	}
	return api.OK
}

// fits reports whether a state fits the machine.
func (w World) fits(s State) bool {
	bodies, motors := len(w.Machine.Bodies), len(w.Machine.Motors)
	if len(s.At) != bodies || len(s.Rot) != bodies || len(s.Speed) != 3*bodies || len(s.Heat) != motors {
		return false
	}
	return !slices.ContainsFunc(s.Rot, func(r exact.Rot) bool { return !r.Valid() })
}

// Fits returns ErrArg if the state does not fit.
func Fits(w World, s State) api.Errno {
	if e := Check(w); e != api.OK {
		return e
	}
	if !w.fits(s) {
		return api.ErrArg
	}
	return api.OK
}
