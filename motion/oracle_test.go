package motion_test

import (
	"amble/contact"
	"amble/exact"
	"amble/motion"
	"amble/pose"
)

// What the chapter defines, written down once more as it says it.

// placed returns the world point of a point of a body.
func (m moment) placed(body int, p exact.Point) exact.Point {
	arm, r, c := p.Sub(m.w.Machine.Bodies[body].Centre), m.s.Rot[body], m.s.At[body]
	x := c.X.Add(r.C.Mul(arm.X)).Sub(r.S.Mul(arm.Z))
	return exact.Point{X: x, Z: c.Z.Add(r.S.Mul(arm.X)).Add(r.C.Mul(arm.Z))}
}

// velocity returns that of a body at a place, for velocities v.
func (m moment) velocity(v []exact.Q, body int, place exact.Point) exact.Point {
	d := place.Sub(m.s.At[body])
	x, z, turning := v[3*body], v[3*body+1], v[3*body+2]
	return exact.Point{X: x.Sub(turning.Mul(d.Z)), Z: z.Add(turning.Mul(d.X))}
}

// row returns the list that, times velocities, gives what a linear function
// says.
func (m moment) row(value func(v []exact.Q) exact.Q) []exact.Q {
	n := 3 * len(m.w.Machine.Bodies)
	var l []exact.Q
	for i := range n {
		unit := make([]exact.Q, n)
		unit[i] = num("1")
		l = append(l, value(unit))
	}
	return l
}

// rows are those of a touch, with its friction, and the ground's direction.
type rows struct {
	normal, tangent []exact.Q
	friction        exact.Q
	along           exact.Point
}

func (m moment) soles() (touches []motion.Touch, all []rows) {
	for i, f := range m.w.Machine.Feet {
		for k, p := range f.Points {
			place := m.placed(f.Body, p)
			height, _ := pose.Height(m.w.Ground, place.X)
			if place.Z.Sub(height).Sign() > 0 {
				continue
			}
			d, _ := pose.Along(m.w.Ground, place.X)
			times := func(x, z exact.Q) []exact.Q {
				return m.row(func(v []exact.Q) exact.Q {
					speed := m.velocity(v, f.Body, place)
					return speed.X.Mul(x).Add(speed.Z.Mul(z))
				})
			}
			touches = append(touches, motion.Touch{Kind: 1, Index: i, Item: k, Point: place})
			all = append(all, rows{times(d.Z.Neg(), d.X), times(d.X, d.Z), f.Friction, d})
		}
	}
	return touches, all
}

func (m moment) stops() (touches []motion.Touch, all []rows) {
	for i, b := range m.w.Machine.Bodies {
		if i == 0 {
			continue
		}
		half, ok := m.s.Rot[b.Parent].Back().Then(m.s.Rot[i]).Half()
		against := m.row(func(v []exact.Q) exact.Q { return v[3*i+2].Sub(v[3*b.Parent+2]) })
		none := make([]exact.Q, len(against))
		if ok && half.Cmp(b.Low) <= 0 {
			touches = append(touches, motion.Touch{Kind: 2, Index: i})
			all = append(all, rows{normal: against, tangent: none})
		}
		if ok && half.Cmp(b.High) >= 0 {
			touches = append(touches, motion.Touch{Kind: 2, Index: i, Item: 1})
			all = append(all, rows{normal: negated(against), tangent: none})
		}
	}
	return touches, all
}

func (m moment) cords() (touches []motion.Touch, all []rows) {
	for i, tendon := range m.w.Machine.Tendons {
		p, q := m.placed(tendon.A, tendon.From), m.placed(tendon.B, tendon.To)
		d := p.Sub(q)
		if d.Dot(d).Cmp(tendon.Length.Mul(tendon.Length)) < 0 {
			continue
		}
		normal := m.row(func(v []exact.Q) exact.Q {
			return d.Dot(m.velocity(v, tendon.A, p).Sub(m.velocity(v, tendon.B, q))).Neg()
		})
		touches = append(touches, motion.Touch{Kind: 3, Index: i})
		all = append(all, rows{normal: normal, tangent: make([]exact.Q, len(normal))})
	}
	return touches, all
}

// touches returns all touches, with what belongs to them.
func (m moment) touches() (touches []motion.Touch, all []rows) {
	for _, some := range []func() ([]motion.Touch, []rows){m.soles, m.stops, m.cords} {
		more, moreRows := some()
		touches, all = append(touches, more...), append(all, moreRows...)
	}
	return touches, all
}

// pushed returns the velocities that the forces alone give.
func (m moment) pushed() []exact.Q {
	var l []exact.Q
	for i, b := range m.w.Machine.Bodies {
		force, torque := exact.Point{Z: b.Mass.Mul(m.w.Gravity).Neg()}, exact.Q{}
		for _, k := range m.w.Machine.Springs {
			p, q := m.placed(k.A, k.From), m.placed(k.B, k.To)
			pull := q.Sub(p).Scale(k.Stiff)
			if i == k.A {
				force, torque = force.Add(pull), torque.Add(p.Sub(m.s.At[i]).Cross(pull))
			}
			if i == k.B {
				force, torque = force.Sub(pull), torque.Sub(q.Sub(m.s.At[i]).Cross(pull))
			}
		}
		for k, motor := range m.w.Machine.Motors {
			if i == motor.Body {
				torque = torque.Add(m.torques[k])
			}
			if i == m.w.Machine.Bodies[motor.Body].Parent {
				torque = torque.Sub(m.torques[k])
			}
		}
		gains := []exact.Q{over(force.X, b.Mass), over(force.Z, b.Mass), over(torque, b.Inertia)}
		for k, gain := range gains {
			l = append(l, m.s.Speed[3*i+k].Add(m.w.Step.Mul(gain)))
		}
	}
	return l
}

// bonds returns two rows for each hinge.
func (m moment) bonds() exact.Mat {
	var all exact.Mat
	for i, b := range m.w.Machine.Bodies {
		if i == 0 {
			continue
		}
		place := m.placed(i, exact.Point{}).Add(m.placed(b.Parent, b.At)).Scale(num("1/2"))
		apart := func(v []exact.Q) exact.Point { return m.velocity(v, i, place).Sub(m.velocity(v, b.Parent, place)) }
		all = append(all, m.row(func(v []exact.Q) exact.Q { return apart(v).X }), m.row(func(v []exact.Q) exact.Q { return apart(v).Z }))
	}
	return all
}

// impact returns the system of a step, and its touches.
func (m moment) impact() (contact.System, []motion.Touch) {
	touches, all := m.touches()
	var contacts exact.Mat
	var frictions []exact.Q
	for _, r := range all {
		contacts = append(contacts, r.normal, r.tangent)
		frictions = append(frictions, r.friction)
	}
	var masses exact.Mat
	for i, b := range m.w.Machine.Bodies {
		for k, mass := range []exact.Q{b.Mass, b.Mass, b.Inertia} {
			row := make([]exact.Q, 3*len(m.w.Machine.Bodies))
			row[3*i+k] = mass
			masses = append(masses, row)
		}
	}
	system, _ := contact.Assemble(masses, m.bonds(), contacts, m.pushed(), frictions, m.w.E)
	return system, touches
}

// step returns the state after a step, and its report.
func (m moment) step() (motion.State, motion.Report) {
	system, touches := m.impact()
	_, all := m.touches()
	outcome, _ := contact.Solve(system.Problem)
	work, _ := contact.Work(system.Problem, outcome.P)
	speeds, _ := contact.Speeds(system, outcome.P)
	next, r := motion.State{Speed: speeds}, motion.Report{Touches: touches, Word: outcome.Word, P: outcome.P, Work: work}
	for i := range m.s.At {
		way := exact.Point{X: speeds[3*i], Z: speeds[3*i+1]}
		next.At = append(next.At, m.s.At[i].Add(way.Scale(m.w.Step)))
		next.Rot = append(next.Rot, m.s.Rot[i].Then(exact.Turn(over(m.w.Step.Mul(speeds[3*i+2]), num("2")))))
	}
	for i, motor := range m.w.Machine.Motors {
		gain := motor.Heating.Mul(m.torques[i].Mul(m.torques[i])).Sub(motor.Cooling.Mul(m.s.Heat[i]))
		next.Heat = append(next.Heat, m.s.Heat[i].Add(m.w.Step.Mul(gain)))
		if next.Heat[i].Cmp(motor.Most) > 0 {
			r.Hot = append(r.Hot, i)
		}
	}
	for i, touch := range touches {
		if d := all[i].along; touch.Kind == motion.Sole {
			up := exact.Point{X: d.Z.Neg(), Z: d.X}
			r.Blows = append(r.Blows, up.Scale(outcome.P[2*i]).Add(d.Scale(outcome.P[2*i+1])))
		}
	}
	return next, r
}

func over(a, b exact.Q) exact.Q {
	q, _ := a.Div(b)
	return q
}

func negated(l []exact.Q) []exact.Q {
	var all []exact.Q
	for _, q := range l {
		all = append(all, q.Neg())
	}
	return all
}

// dot returns the sum of the products of two lists.
func dot(a, b []exact.Q) exact.Q {
	var sum exact.Q
	for i := range a {
		sum = sum.Add(a[i].Mul(b[i]))
	}
	return sum
}
