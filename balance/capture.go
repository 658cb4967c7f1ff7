package balance

import (
	"amble/api"
	"amble/exact"
	"amble/hull"
)

// book keeps the capture sets of one pendulum that have been made.
type book struct {
	walker
	captures map[int]hull.Poly
}

// open returns the book of a pendulum, or the error of CheckPendulum; ErrRange:
// k is not a number of steps that is at least least.
func open(p Pendulum, k, least int) (book, api.Errno) {
	w, e := enter(p)
	switch {
	case e != api.OK:
		return book{}, e
	case k < least || k > api.MaxSteps:
		return book{}, api.ErrRange
	}
	return book{w, map[int]hull.Poly{}}, api.OK
}

// capture returns the capture set of k.
func (b book) capture(k int) hull.Poly {
	set, ok := b.captures[k]
	if !ok {
		set, _ = hull.Canon(b.stops(k))
		b.captures[k] = set
	}
	return set
}

// stops returns the states from which k steps lead to rest, whatever pushes
// come. As the ready set is convex, it is enough to look at the greatest ones.
func (b book) stops(k int) hull.Poly {
	if k == 0 {
		return b.rest()
	}
	ready, same := b.ready(k), exact.Mat{unit(2, 0), unit(2, 1)}
	return meet(where(ready, same, exact.Q{}, b.Push.Neg()), where(ready, same, exact.Q{}, b.Push))
}

// ready returns the ready set of k.
func (b book) ready(k int) hull.Poly {
	steps := meet(where(b.bounds(), starts()), b.into(b.capture(k-1)))
	set, _ := hull.Project(steps, []int{0, 1})
	return set
}

// Rest returns the canonical description of the states at rest.
func Rest(p Pendulum) (hull.Poly, api.Errno) { return Capture(p, 0) }

// Ready returns the canonical description of the ready set of k.
func Ready(p Pendulum, k int) (hull.Poly, api.Errno) {
	b, e := open(p, k, 1)
	if e != api.OK {
		return hull.Poly{}, e
	}
	return b.ready(k), api.OK
}

// Capture returns the canonical description of the capture set of k.
func Capture(p Pendulum, k int) (hull.Poly, api.Errno) {
	b, e := open(p, k, 0)
	if e != api.OK {
		return hull.Poly{}, e
	}
	return b.capture(k), api.OK
}
