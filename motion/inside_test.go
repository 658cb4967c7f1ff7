package motion

import (
	"testing"

	"amble/api"
	"amble/contact"
	"amble/exact"
	"amble/machine"
	"amble/pose"
)

// P6.3: a step whose impact has no solution. No valid world has one: the
// velocities of its contacts are velocities that its masses can have, and then
// the laws can always be kept. So the impact is made by hand: a contact that
// comes down, and that no impulse moves.
func TestNoSolution(t *testing.T) {
	one := exact.Int(1)
	w := World{
		Machine: machine.Machine{Name: "ball", Bodies: []machine.Body{{Name: "ball", Parent: -1, Mass: one, Inertia: one}}},
		Ground:  pose.Ground{{}, {X: one}}, Step: one,
	}
	s, e := Start(w, pose.Pose{}, make([]exact.Q, 3))
	if e != api.OK {
		t.Fatal("Start:", e)
	}
	impact := contact.System{
		Problem: contact.Problem{G: exact.Mat{{{}, {}}, {{}, {}}}, V: []exact.Q{one.Neg(), {}}, Mu: []exact.Q{one}},
		Free:    make([]exact.Q, 3), Lift: exact.Mat{{{}, {}}, {{}, {}}, {{}, {}}},
	}
	touches := []touching{{Touch: Touch{Kind: Sole}}}
	next, r, e := step{scene{w, s}, nil}.after(impact, touches)
	if e != api.ErrNone {
		t.Error("a step without a solution gives the error", e)
	}
	if len(next.At)+len(next.Rot)+len(next.Speed)+len(next.Heat) > 0 {
		t.Error("a step without a solution gives the state", next)
	}
	if len(r.Touches)+len(r.Word)+len(r.P)+len(r.Blows)+len(r.Hot) > 0 || r.Work.Sign() != 0 {
		t.Error("a step without a solution gives the report", r)
	}
	impact.Problem.V[0] = one
	if _, _, e := (step{scene{w, s}, nil}).after(impact, touches); e != api.OK {
		t.Error("a step with a solution gives the error", e)
	}
}
