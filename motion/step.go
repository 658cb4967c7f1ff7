package motion

import (
	"amble/api"
	"amble/contact"
	"amble/exact"
)

// blows returns the impulses of the ground, of those of all touches.
func blows(touches []touching, p []exact.Q) []exact.Point {
	var l []exact.Point
	for i, t := range touches {
		if t.Kind == Sole {
			l = append(l, upward(t.along).Scale(p[2*i]).Add(t.along.Scale(p[2*i+1])))
		}
	}
	return l
}

// heated returns the heat of the motors after the step.
func (s step) heated() []exact.Q {
	heat := make([]exact.Q, len(s.Heat))
	for i, m := range s.Machine.Motors {
		torque := s.torques[i]
		gain := m.Heating.Mul(torque).Mul(torque).Sub(m.Cooling.Mul(s.Heat[i]))
		heat[i] = s.Heat[i].Add(s.Step.Mul(gain))
	}
	return heat
}

// hot returns the motors that have more heat than they bear.
func (w World) hot(heat []exact.Q) []int {
	var motors []int
	for i, m := range w.Machine.Motors {
		if heat[i].Cmp(m.Most) > 0 {
			motors = append(motors, i)
		}
	}
	return motors
}

// moved returns the state after a step, with its new velocities.
func (s step) moved(speeds []exact.Q) State {
	next := State{Speed: speeds, Heat: s.heated()}
	for i := range s.At {
		way, turn := next.velocity(i)
		next.At = append(next.At, s.At[i].Add(way.Scale(s.Step)))
		next.Rot = append(next.Rot, s.Rot[i].Then(exact.Turn(half(s.Step.Mul(turn)))))
	}
	return next
}

// after returns the state after an impact with these touches, and the report.
func (s step) after(impact contact.System, touches []touching) (State, Report, api.Errno) {
	outcome, e := contact.Solve(impact.Problem)
	if e != api.OK {
		return State{}, Report{}, e
	}
	speeds, _ := contact.Speeds(impact, outcome.P)
	work, _ := contact.Work(impact.Problem, outcome.P)
	next := s.moved(speeds)
	return next, Report{
		Touches: bare(touches), Word: outcome.Word, P: outcome.P,
		Blows: blows(touches, outcome.P), Work: work, Hot: s.hot(next.Heat),
	}, api.OK
}

// take returns the state after the step, and its report.
func (s step) take() (State, Report, api.Errno) {
	impact, touches, e := s.impact()
	if e != api.OK {
		return State{}, Report{}, e
	}
	return s.after(impact, touches)
}

// Step returns the state after a step with torques, and its report.
func Step(w World, s State, torques []exact.Q) (State, Report, api.Errno) {
	now, e := enter(w, s)
	if e != api.OK {
		return State{}, Report{}, e
	}
	return step{now, torques}.take()
}

// Run returns the state after a step with each list of torques, rounded to k
// after each of them, and the reports.
func Run(w World, s State, torques [][]exact.Q, k int) (State, []Report, api.Errno) {
	now, e := enter(w, s)
	switch {
	case e != api.OK:
		return State{}, nil, e
	case len(torques) > api.MaxRun:
		return State{}, nil, api.ErrLimit
	case !isGrade(k):
		return State{}, nil, api.ErrRange
	}
	now.State = s.clone()
	var reports []Report
	for _, l := range torques {
		next, report, e := step{now, l}.take()
		if e != api.OK {
			return State{}, nil, e
		}
		now.State, reports = next.rounded(k), append(reports, report)
	}
	return now.State, reports, api.OK
}
