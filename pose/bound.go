package pose

import (
	"amble/api"
	"amble/exact"
	"amble/machine"
)

// allows reports whether a half tangent is within the limits of the hinge of a
// body.
func allows(b machine.Body, tangent exact.Surd) bool {
	low, _ := tangent.Cmp(exact.Surd{A: b.Low})
	high, _ := tangent.Cmp(exact.Surd{A: b.High})
	return low >= 0 && high <= 0
}

// Beyond returns the bodies whose joint is not within its limits.
func Beyond(m machine.Machine, p Pose) ([]int, api.Errno) {
	if e := Check(m, p); e != api.OK {
		return nil, e
	}
	var bodies []int
	for i, joint := range p.Joints {
		if !allows(m.Bodies[i+1], exact.Surd{A: joint}) {
			bodies = append(bodies, i+1)
		}
	}
	return bodies, api.OK
}

// Tight returns the tendons that are longer than they may be.
func Tight(m machine.Machine, p Pose) ([]int, api.Errno) {
	q, e := place(m, p)
	if e != api.OK {
		return nil, e
	}
	var tendons []int
	for i, t := range q.Tendons {
		apart := q.world(t.B, t.To).Sub(q.world(t.A, t.From))
		if apart.Dot(apart).Cmp(t.Length.Mul(t.Length)) > 0 {
			tendons = append(tendons, i)
		}
	}
	return tendons, api.OK
}
