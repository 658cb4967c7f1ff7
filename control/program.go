package control

import (
	"slices"

	"amble/api"
	"amble/exact"
)

// Bounds of programs.
const (
	minWidth = 2
	maxWidth = 62
	maxShift = 62
)

// power returns 2^k, for k from 0 to 62.
func power(k int) exact.Q { return exact.Int(1 << k) }

// isWidth reports whether registers may have this width.
func isWidth(width int) bool { return width >= minWidth && width <= maxWidth }

// fits reports whether a value fits.
func (p Program) fits(value exact.Q) bool {
	end := power(p.Width - 1)
	return value.Cmp(end.Neg()) >= 0 && value.Cmp(end) < 0
}

// unused returns what is left of an operation without what its kind uses;
// false: there is no such kind.
func (o Op) unused() (Op, bool) {
	switch o.Kind {
	case Input:
		o.A = 0
	case Const:
		o.K = 0
	case Add, Sub, Min, Max:
		o.A, o.B = 0, 0
	case Mul:
		o.A, o.B, o.Shift = 0, 0, 0
	case Scale:
		o.A, o.K, o.Shift = 0, 0, 0
	case Left:
		o.A, o.Shift = 0, 0
	default:
		return Op{}, false
	}
	o.Kind = 0
	return o, true
}

// allows reports whether an operation may be at a place. A register that is not
// used is 0, which is before each place that has one that is used.
func (p Program) allows(o Op, place int) bool {
	rest, ok := o.unused()
	if !ok || rest != (Op{}) || o.Shift > maxShift {
		return false
	}
	switch o.Kind {
	case Input:
		return o.A >= 0 && o.A < p.Inputs
	case Const:
		return true
	}
	return min(o.A, o.B) >= 0 && max(o.A, o.B) < place
}

// CheckProgram returns ErrArg if the program is not valid.
func CheckProgram(p Program) api.Errno {
	if !isWidth(p.Width) || p.Inputs < 0 || p.Inputs > api.MaxInputs || len(p.Ops) > api.MaxOps {
		return api.ErrArg
	}
	for place, o := range p.Ops {
		if !p.allows(o, place) {
			return api.ErrArg
		}
	}
	isNone := func(place int) bool { return place < 0 || place >= len(p.Ops) }
	if slices.ContainsFunc(p.Outputs, isNone) {
		return api.ErrArg
	}
	return api.OK
}

// checkWith returns ErrArg if the program is not valid, or has not so many
// inputs.
func checkWith(p Program, inputs int) api.Errno {
	if e := CheckProgram(p); e != api.OK || p.Inputs != inputs {
		return api.ErrArg
	}
	return api.OK
}
