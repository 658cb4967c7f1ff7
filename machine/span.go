package machine

import (
	"amble/api"
	"amble/exact"
)

// fine is the number of binary digits behind the point of the roots in Reach.
const fine = 20

// Masses returns the least and the greatest sum of masses.
func Masses(d Design) (low, high exact.Q, e api.Errno) {
	if e := CheckDesign(d); e != api.OK {
		return exact.Q{}, exact.Q{}, e
	}
	var amount exact.Q
	for _, t := range d.Tolerances {
		if t.Kind == OfBody && t.Field == bodyMass {
			amount = amount.Add(t.Amount)
		}
	}
	sum := d.Machine.weight()
	return sum.Sub(amount), sum.Add(amount), api.OK
}

func square(a exact.Q) exact.Q { return a.Mul(a) }

// squares returns the least and the greatest square of a number that may be
// less or more by an amount.
func squares(number, amount exact.Q) (low, high exact.Q) {
	size := number.Abs()
	return square(exact.Max(size.Sub(amount), exact.Q{})), square(size.Add(amount))
}

// spans is Spans for a valid design and a body that hangs at a hinge.
func (d Design) spans(body int) (low, high exact.Q) {
	at := d.Machine.Bodies[body].At
	lowX, highX := squares(at.X, d.amount(Place{Kind: OfBody, Index: body, Field: bodyX}))
	lowZ, highZ := squares(at.Z, d.amount(Place{Kind: OfBody, Index: body, Field: bodyX + 1}))
	return lowX.Add(lowZ), highX.Add(highZ)
}

// checkDesignBody returns the error of d, and ErrRange if its machine has no
// such body.
func checkDesignBody(d Design, body int) api.Errno {
	if e := CheckDesign(d); e != api.OK {
		return e
	}
	if !d.Machine.isBody(body) {
		return api.ErrRange
	}
	return api.OK
}

// Spans returns the least and the greatest square of the distance of a body's
// hinge from its parent's origin.
func Spans(d Design, body int) (low, high exact.Q, e api.Errno) {
	if e := checkDesignBody(d, body); e != api.OK {
		return exact.Q{}, exact.Q{}, e
	}
	if body == 0 {
		return exact.Q{}, exact.Q{}, api.ErrRange
	}
	low, high = d.spans(body)
	return low, high, api.OK
}

// between returns the bodies behind from in the chain of to; false: from is
// not in it.
func (m Machine) between(from, to int) ([]int, bool) {
	var bodies []int
	for i := range m.upward(to) {
		if i == from {
			return bodies, true
		}
		bodies = append(bodies, i)
	}
	return nil, false
}

// rootUp returns the root of a square, rounded up.
func rootUp(a exact.Q) exact.Q {
	root, _ := a.Root(fine)
	if square(root).Cmp(a) == 0 {
		return root
	}
	step, _ := exact.Of(1, 1<<fine)
	return root.Add(step)
}

// Reach returns a lower and an upper bound of the distance of the origin of
// the body to from that of the body from. They are nearest where one link
// points back against all others.
func Reach(d Design, from, to int) (low, high exact.Q, e api.Errno) {
	if e := checkDesignBody(d, from); e != api.OK {
		return exact.Q{}, exact.Q{}, e
	}
	if !d.Machine.isBody(to) {
		return exact.Q{}, exact.Q{}, api.ErrRange
	}
	bodies, ok := d.Machine.between(from, to)
	if !ok {
		return exact.Q{}, exact.Q{}, api.ErrArg
	}
	var reach exact.Q // the greatest l of a body and its h
	for _, body := range bodies {
		least, most := d.spans(body)
		l, _ := least.Root(fine)
		h := rootUp(most)
		high = high.Add(h)
		reach = exact.Max(reach, l.Add(h))
	}
	return exact.Max(reach.Sub(high), exact.Q{}), high, api.OK
}
