package contact

import (
	"amble/api"
	"amble/exact"
)

// after returns the velocities after impulses.
func (x Problem) after(p []exact.Q) []exact.Q {
	return plus(x.V, exact.Int(1), times(x.G, p))
}

// mean returns the mean velocities of impulses.
func (x Problem) mean(p []exact.Q) []exact.Q {
	return scaled(over(exact.Int(1), x.bounce()), plus(x.after(p), x.E, x.V))
}

// bounce returns 1 + E.
func (x Problem) bounce() exact.Q { return x.E.Add(exact.Int(1)) }

// After returns the velocities after impulses.
func After(x Problem, p []exact.Q) ([]exact.Q, api.Errno) {
	if e := checkWith(x, p); e != api.OK {
		return nil, e
	}
	return x.after(p), api.OK
}

// Mean returns the mean velocities of impulses, with which the laws are stated.
func Mean(x Problem, p []exact.Q) ([]exact.Q, api.Errno) {
	if e := checkWith(x, p); e != api.OK {
		return nil, e
	}
	return x.mean(p), api.OK
}

// Work returns the work of impulses: what they add to the kinetic energy.
func Work(x Problem, p []exact.Q) (exact.Q, api.Errno) {
	if e := checkWith(x, p); e != api.OK {
		return exact.Q{}, e
	}
	return over(dot(p, plus(x.V, exact.Int(1), x.after(p))), exact.Int(2)), api.OK
}

// isBetween reports whether a number is from low to high.
func isBetween(low, q, high exact.Q) bool { return low.Cmp(q) <= 0 && q.Cmp(high) <= 0 }

// laws returns the laws of a contact, in the order of their numbers, for
// impulses p and their mean velocities u.
func (x Problem) laws(contact int, p, u []exact.Q) []func() bool {
	n, t := 2*contact, 2*contact+1
	most := x.Mu[contact].Mul(p[n])
	push := func() bool { return p[n].Sign() >= 0 }
	gap := func() bool { return u[n].Sign() >= 0 }
	either := func() bool { return p[n].Sign() == 0 || u[n].Sign() == 0 }
	cone := func() bool { return isBetween(most.Neg(), p[t], most) }
	slide := func() bool {
		switch u[t].Sign() {
		case 1:
			return p[t].Cmp(most.Neg()) == 0
		case -1:
			return p[t].Cmp(most) == 0
		}
		return true
	}
	return []func() bool{push, gap, either, cone, slide}
}

// Broken returns the laws that do not hold for impulses.
func Broken(x Problem, p []exact.Q) ([]Fault, api.Errno) {
	if e := checkWith(x, p); e != api.OK {
		return nil, e
	}
	var faults []Fault
	u := x.mean(p)
	for contact := range x.Mu {
		for i, holds := range x.laws(contact, p, u) {
			if !holds() {
				faults = append(faults, Fault{Contact: contact, Law: uint8(i + 1)})
			}
		}
	}
	return faults, api.OK
}
