package wear

import (
	"slices"

	"amble/api"
)

// isBox reports whether a box is valid.
func isBox(b Box) bool {
	low, high := numbers(b.Low), numbers(b.High)
	for i := range low {
		if low[i].Cmp(high[i]) > 0 {
			return false
		}
	}
	return true
}

// isIn reports whether a sample is in a box.
func isIn(s Sample, b Box) bool {
	low, high := numbers(b.Low), numbers(b.High)
	for i, q := range numbers(s) {
		if !isBetween(low[i], q, high[i]) {
			return false
		}
	}
	return true
}

func isGuard(g Guard) bool {
	arePhases := g.From < phases && g.To < phases && g.From != g.To
	return arePhases && isBox(g.Box) && 1 <= g.Hold && g.Hold <= api.MaxHold
}

func isLimit(l Limit) bool { return l.Moment.Sign() >= 0 && l.Rate.Sign() >= 0 }

// all reports whether each element of a list is right.
func all[T any](l []T, isRight func(T) bool) bool {
	isWrong := func(x T) bool { return !isRight(x) }
	return !slices.ContainsFunc(l, isWrong)
}

// Check returns ErrArg if the device is not valid.
func Check(d Device) api.Errno {
	areMany := len(d.Guards) > api.MaxGuards || len(d.Curves) != phases || len(d.Limits) != phases
	if areMany || !all(d.Guards, isGuard) || !all(d.Curves, isCurve) || !all(d.Limits, isLimit) || d.Step.Sign() <= 0 {
		return api.ErrArg
	}
	return api.OK
}

// mirrorBox returns the box of the samples whose opposites on the other side
// are in b.
func mirrorBox(b Box) Box {
	return Box{
		Low:  Sample{b.Low.Load, b.High.Angle.Neg(), b.High.Speed.Neg()},
		High: Sample{b.High.Load, b.Low.Angle.Neg(), b.Low.Speed.Neg()},
	}
}

// mirrorCurve returns the curve that has the opposite moments at the opposite
// angles.
func mirrorCurve(c Curve) Curve {
	c = slices.Clone(c)
	slices.Reverse(c)
	for i, p := range c {
		c[i].X, c[i].Z = p.X.Neg(), p.Z.Neg()
	}
	return c
}

// Mirror returns the device for the other side.
func Mirror(d Device) (Device, api.Errno) {
	if e := Check(d); e != api.OK {
		return Device{}, e
	}
	d.Guards, d.Curves, d.Limits = slices.Clone(d.Guards), slices.Clone(d.Curves), slices.Clone(d.Limits)
	for i, g := range d.Guards {
		d.Guards[i].Box = mirrorBox(g.Box)
	}
	for i, c := range d.Curves {
		d.Curves[i] = mirrorCurve(c)
	}
	return d, api.OK
}
