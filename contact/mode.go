package contact

import (
	"slices"

	"amble/api"
	"amble/exact"
	"amble/hull"
)

// atMost returns the row that says that a·x is at most b.
func atMost(a []exact.Q, b exact.Q) hull.Row { return hull.Row{A: slices.Clone(a), B: b} }

// atLeast returns the row that says that a·x is at least b.
func atLeast(a []exact.Q, b exact.Q) hull.Row {
	return hull.Row{A: scaled(exact.Int(-1), a), B: b.Neg()}
}

// touch is a contact of a problem, with what its modes say something about:
// the impulses along the normal and the tangent, the changes of the two
// velocities, and the values of these changes for which the mean velocities
// are 0.
type touch struct {
	impulse, change [2][]exact.Q
	still           [2]exact.Q
	friction        exact.Q
}

func (x Problem) touch(contact int) touch {
	c := touch{friction: x.Mu[contact]}
	for i := range c.impulse {
		index := 2*contact + i
		c.impulse[i] = make([]exact.Q, x.size())
		c.impulse[i][index] = exact.Int(1)
		c.change[i] = x.G[index]
		c.still[i] = x.bounce().Mul(x.V[index]).Neg()
	}
	return c
}

// beyond returns the tangential impulse, plus the most that friction gives
// times the sign: 0 at one end of what friction allows.
func (c touch) beyond(sign int64) []exact.Q {
	return plus(c.impulse[1], c.friction.Mul(exact.Int(sign)), c.impulse[0])
}

// closed returns the rows of a contact whose normal velocity has come to its
// end, and that pushes.
func (c touch) closed() []hull.Row {
	return []hull.Row{
		atLeast(c.impulse[0], exact.Q{}),
		atMost(c.change[0], c.still[0]), atLeast(c.change[0], c.still[0]),
	}
}

// add returns a new list with rows behind others.
func add(rows []hull.Row, more ...hull.Row) []hull.Row {
	return append(rows[:len(rows):len(rows)], more...)
}

func (c touch) apart() []hull.Row {
	none := exact.Q{}
	return []hull.Row{
		atMost(c.impulse[0], none), atLeast(c.impulse[0], none),
		atMost(c.impulse[1], none), atLeast(c.impulse[1], none),
		atLeast(c.change[0], c.still[0]),
	}
}

func (c touch) stick() []hull.Row {
	return add(c.closed(),
		atMost(c.change[1], c.still[1]), atLeast(c.change[1], c.still[1]),
		atMost(c.beyond(-1), exact.Q{}), atLeast(c.beyond(1), exact.Q{}),
	)
}

func (c touch) forward() []hull.Row {
	return add(c.closed(),
		atLeast(c.change[1], c.still[1]),
		atMost(c.beyond(1), exact.Q{}), atLeast(c.beyond(1), exact.Q{}),
	)
}

func (c touch) back() []hull.Row {
	return add(c.closed(),
		atMost(c.change[1], c.still[1]),
		atMost(c.beyond(-1), exact.Q{}), atLeast(c.beyond(-1), exact.Q{}),
	)
}

// rows returns those of a mode.
func (c touch) rows(mode uint8) []hull.Row {
	modes := [...]func() []hull.Row{Apart: c.apart, Stick: c.stick, Forward: c.forward, Back: c.back}
	return modes[mode]()
}

// axes returns the impulses of which those of a mode are sums, each times a
// factor: all that fulfil its equations about impulses.
func (c touch) axes(mode uint8) exact.Mat {
	normal, tangent := c.impulse[0], c.impulse[1]
	switch mode {
	case Stick:
		return exact.Mat{normal, tangent}
	case Forward:
		return exact.Mat{plus(normal, c.friction.Neg(), tangent)}
	case Back:
		return exact.Mat{plus(normal, c.friction, tangent)}
	}
	return nil
}

// set returns that of a word.
func (x Problem) set(word []uint8) hull.Poly {
	set := hull.Poly{N: x.size()}
	for contact, mode := range word {
		set.Rows = add(set.Rows, x.touch(contact).rows(mode)...)
	}
	return set
}

// Set returns the set of a word.
func Set(x Problem, word []uint8) (hull.Poly, api.Errno) {
	if e := checkWord(x, word); e != api.OK {
		return hull.Poly{}, e
	}
	return x.set(word), api.OK
}
