package control

import (
	"amble/api"
	"amble/exact"
	"amble/machine"
)

// governor keeps a motor from becoming too hot. Behind 1 + delay cycles with a
// steady torque, left of the heat is left, and gain times the square of the
// torque has been added.
type governor struct {
	machine.Motor
	step       exact.Q
	delay, k   int
	left, gain exact.Q
}

// next returns the next heat.
func (g governor) next(heat, torque exact.Q) exact.Q {
	gain := g.Heating.Mul(torque).Mul(torque).Sub(g.Cooling.Mul(heat))
	return heat.Add(g.step.Mul(gain))
}

// isMotor reports whether a machine with this motor, at some body, is valid.
func isMotor(m machine.Motor) bool {
	one := exact.Int(1)
	m.Body = 1
	return machine.Check(machine.Machine{
		Name: "m",
		Bodies: []machine.Body{
			{Name: "a", Parent: -1, Mass: one, Inertia: one},
			{Name: "b", Mass: one, Inertia: one},
		},
		Motors: []machine.Motor{m},
	}) == api.OK
}

// govern returns the governor of a motor that has some heat.
func govern(m machine.Motor, step, heat exact.Q, delay, k int) (governor, api.Errno) {
	one := exact.Int(1)
	switch {
	case !isMotor(m) || step.Sign() <= 0 || step.Mul(m.Cooling).Cmp(one) > 0:
		return governor{}, api.ErrArg
	case heat.Sign() < 0 || heat.Cmp(m.Most) > 0:
		return governor{}, api.ErrArg
	case delay < 0 || delay > api.MaxDelay || k < 0 || k > api.MaxFine:
		return governor{}, api.ErrRange
	}
	g := governor{Motor: m, step: step, delay: delay, k: k, left: one}
	for range 1 + delay {
		g.left, g.gain = g.next(g.left, exact.Q{}), g.next(g.gain, one)
	}
	return g, api.OK
}

// allowed returns the allowed torque. With a steady torque the heat goes only
// up or only down: as it is at most Most now, it is enough that it is so behind
// the last cycle.
func (g governor) allowed(heat exact.Q) exact.Q {
	square := g.Torque.Mul(g.Torque)
	if g.gain.Sign() > 0 {
		square = exact.Min(square, over(g.Most.Sub(g.left.Mul(heat)), g.gain))
	}
	torque, _ := square.Root(g.k)
	return torque
}

// Allowed returns the allowed torque.
func Allowed(m machine.Motor, step, heat exact.Q, delay, k int) (exact.Q, api.Errno) {
	g, e := govern(m, step, heat, delay, k)
	if e != api.OK {
		return exact.Q{}, e
	}
	return g.allowed(heat), api.OK
}

// command returns what is commanded for a number wanted and a reading.
func (g governor) command(wanted, reading exact.Q) exact.Q {
	most := g.allowed(reading)
	return between(most.Neg(), wanted, most)
}

// in returns the kind of fault that a motor has in a cycle. After the delay any
// fault is known, and the motor is off.
func (f Fault) in(cycle, delay int) uint8 {
	switch {
	case f.Kind == 0 || cycle < f.At:
		return 0
	case cycle-f.At >= delay:
		return Dead
	}
	return f.Kind
}

// watch goes through the cycles.
func (g governor) watch(heat exact.Q, wanted []exact.Q, f Fault) []Cycle {
	var cycles []Cycle
	var reading, torque exact.Q
	for i, want := range wanted {
		kind := f.in(i, g.delay)
		if kind != Blind || i == f.At {
			reading = heat
		}
		switch kind {
		case Dead:
			torque = exact.Q{}
		case Stuck: // the torque stays what it was
		default:
			torque = g.command(want, reading)
		}
		heat = g.next(heat, torque)
		cycles = append(cycles, Cycle{torque, heat})
	}
	return cycles
}

// Watch returns for each cycle the actual torque, and the heat after it.
func Watch(m machine.Motor, step, heat exact.Q, delay, k int, wanted []exact.Q, f Fault) ([]Cycle, api.Errno) {
	g, e := govern(m, step, heat, delay, k)
	switch {
	case e != api.OK:
		return nil, e
	case len(wanted) > api.MaxCycles:
		return nil, api.ErrLimit
	case f.Kind > Blind || f.At < 0:
		return nil, api.ErrArg
	}
	return g.watch(heat, wanted, f), api.OK
}
