package contact_test

import (
	"testing"

	"amble/api"
	"amble/contact"
	"amble/exact"
)

// after returns V + G P, entry by entry.
func after(x contact.Problem, p []exact.Q) []exact.Q {
	w := make([]exact.Q, len(x.V))
	for i := range w {
		w[i] = x.V[i]
		for j := range p {
			w[i] = w[i].Add(p[j].Mul(x.G[i][j]))
		}
	}
	return w
}

// expectMoved compares After, Mean and Work with what defines them.
func expectMoved(t *testing.T, x contact.Problem, p []exact.Q) {
	t.Helper()
	w := after(x, p)
	got, e := contact.After(x, p)
	expectOK(t, "After", numsText(got), e, numsText(w))
	u, e := contact.Mean(x, p)
	// (1 + E) U = W + E V
	expectOK(t, "Mean", numsText(scaled(x.E.Add(num("1")), u)), e, numsText(mixed(num("1"), w, x.E, x.V)))
	work, e := contact.Work(x, p)
	expectOK(t, "Work", work.Add(work).Text(), e, dot(p, sum(x.V, w)).Text())
}

// P5.1: the velocities after impulses, their means, the work.
func TestMoved(t *testing.T) {
	x := problem("2 1, 1 3", "-1 1/2", "1", "1/3")
	p := nums("3 -1/2")
	w, e := contact.After(x, p)
	expectOK(t, "After", numsText(w), e, "[9/2 2]")
	u, e := contact.Mean(x, p)
	expectOK(t, "Mean", numsText(u), e, "[25/8 13/8]")
	work, e := contact.Work(x, p)
	// 3 (-1 + 9/2)/2 - 1/2 (1/2 + 2)/2
	expectOK(t, "Work", work.Text(), e, "37/8")
	// Impulses need not keep any law.
	w, e = contact.After(x, nums("-1 0"))
	expectOK(t, "After of a pull", numsText(w), e, "[-3 -1/2]")
	expectMoved(t, problem("", "", "", "1"), nil)
	s := source(501)
	for range 100 {
		x := s.problem(s.below(5))
		expectMoved(t, x, s.numbers(len(x.V)))
	}
}

// P5.1: with the restitution 0 the mean is the velocity after, with 1 that
// between the velocity before and it.
func TestMeanAtTheEnds(t *testing.T) {
	x := first()
	u, e := contact.Mean(x, nums("5 7"))
	expectOK(t, "Mean with E 0", numsText(u), e, "[3 8]")
	x.E = num("1")
	u, e = contact.Mean(x, nums("5 7"))
	expectOK(t, "Mean with E 1", numsText(u), e, "[1/2 9/2]")
}

// P5.2: each law of a contact, kept and broken.
func TestLaws(t *testing.T) {
	one := problem("1 0, 0 1", "-1 1", "1/2", "0")
	for _, x := range []struct{ v, p, want string }{
		{"-1 1", "1 -1/2", ""},        // slides forward
		{"-1 1", "1 0", "0:5"},        // pushes less than friction does
		{"-1 1", "1 1/2", "0:5"},      // forward, and pushed forward
		{"-1 1", "1 -3/4", "0:4 0:5"}, // pushed back too much
		{"-1 1", "1 -1", "0:4"},       // and so much that it stops
		{"-1 1", "1 3/4", "0:4 0:5"},
		{"-1 -1", "1 1/2", ""}, // slides back
		{"-1 -1", "1 -1/2", "0:5"},
		{"-1 -1", "1 1/4", "0:5"},
		{"-1 -1", "1 1", "0:4"},
		{"-1 1/2", "1 -1/2", ""}, // sticks at the end of the cone
		{"-1 -1/2", "1 1/2", ""},
		{"-1 1/4", "1 -1/4", ""},            // sticks within it
		{"-1 0", "1 0", ""},                 // sticks without friction
		{"-1 0", "0 0", "0:2"},              // sinks
		{"-1 0", "1/2 0", "0:2 0:3"},        // sinks, and is pushed
		{"-1 0", "2 0", "0:3"},              // leaves, and is pushed
		{"-1 0", "-1 0", "0:1 0:2 0:3 0:4"}, // is pulled
		{"1 0", "-1 0", "0:1 0:4"},          // pulled, to rest
		{"1 3", "0 0", ""},                  // leaves
		{"1 3", "0 1", "0:4 0:5"},           // leaves with friction
		{"1 3", "0 -3", "0:4"},              // leaves with friction, and stops sliding
		{"0 3", "0 0", ""},                  // grazes
		{"0 3", "0 -1", "0:4 0:5"},
		{"1 3", "1 -1/2", "0:3"}, // is pushed although it leaves
		{"-2 0", "-1 1", "0:1 0:2 0:3 0:4 0:5"},
		{"-2 0", "-1 -1", "0:1 0:2 0:3 0:4 0:5"},
	} {
		one.V = nums(x.v)
		got, e := contact.Broken(one, nums(x.p))
		expectOK(t, "Broken with "+x.v+" and "+x.p, faultsText(got), e, x.want)
	}
}

// P5.2: without friction the cone is a line.
func TestLawsWithoutFriction(t *testing.T) {
	one := problem("1 0, 0 1", "-1 1", "0", "0")
	for p, want := range map[string]string{
		"1 0": "", "1 -1/9": "0:4 0:5", "1 1/9": "0:4 0:5", "1 -1": "0:4", "-1 0": "0:1 0:2 0:3",
	} {
		got, e := contact.Broken(one, nums(p))
		expectOK(t, "Broken without friction, "+p, faultsText(got), e, want)
	}
}

// P5.2: the laws are about the mean velocities, not about those after.
func TestLawsOfMeans(t *testing.T) {
	x := problem("1 0, 0 1", "-2 1", "1", "1/2")
	for p, want := range map[string]string{
		"3 -3/2": "",            // leaves with 1, and sticks in the mean
		"2 -1":   "0:2 0:3 0:5", // at rest after it
		"3 -1":   "0:5",
		"3 -2":   "0:5", // slides back in the mean
		"4 -3/2": "0:3",
	} {
		got, e := contact.Broken(x, nums(p))
		expectOK(t, "Broken with restitution, "+p, faultsText(got), e, want)
	}
	x.E = num("1")
	got, e := contact.Broken(x, nums("4 -2"))
	expectOK(t, "Broken with the restitution 1", faultsText(got), e, "")
	got, e = contact.Broken(x, nums("2 -1"))
	expectOK(t, "Broken with the restitution 1", faultsText(got), e, "0:2 0:3 0:5")
}

// P5.2: by contacts, and for each contact by laws.
func TestLawsOfSeveral(t *testing.T) {
	x := contact.Problem{G: unit(8, num("1")), V: nums("-1 0 1 1 -1 -1 -1 0"), Mu: nums("1 0 1/2 1")}
	for p, want := range map[string]string{
		"1 0 0 0 1 1/2 1 0":  "",
		"0 0 0 0 0 0 0 0":    "0:2 2:2 3:2",
		"0 0 0 -1 0 0 1 0":   "0:2 1:4 2:2",
		"1 0 0 0 1 0 0 0":    "2:5 3:2",
		"-1 0 -1 1 1 1 2 -3": "0:1 0:2 0:3 0:4 1:1 1:4 1:5 2:4 3:3 3:4 3:5",
	} {
		got, e := contact.Broken(x, nums(p))
		expectOK(t, "Broken of "+p, faultsText(got), e, want)
	}
	got, e := contact.Broken(contact.Problem{}, nil)
	expectOK(t, "Broken without contacts", faultsText(got), e, "")
}

// broken returns the laws that do not hold: those of the chapter, with 1 + E
// times the mean velocities.
func broken(x contact.Problem, p []exact.Q) []contact.Fault {
	var faults []contact.Fault
	u := mixed(num("1"), after(x, p), x.E, x.V)
	for i, mu := range x.Mu {
		push, side := p[2*i], p[2*i+1]
		gap, slip := u[2*i].Sign(), u[2*i+1].Sign()
		lower, upper := side.Add(mu.Mul(push)).Sign(), side.Sub(mu.Mul(push)).Sign()
		for k, holds := range []bool{
			push.Sign() != -1,
			gap != -1,
			push.Sign()*gap == 0,
			lower != -1 && upper != 1,
			slip == 0 || slip == 1 && lower == 0 || slip == -1 && upper == 0,
		} {
			if !holds {
				faults = append(faults, contact.Fault{Contact: i, Law: uint8(k + 1)})
			}
		}
	}
	return faults
}

// P5.2: the laws, for impulses near those that keep them.
func TestLawsOfAny(t *testing.T) {
	s := source(502)
	seen := map[uint8]int{}
	for range 300 {
		x := s.problem(1 + s.below(4))
		p := s.numbers(len(x.V))
		for i := range x.Mu { // some of them at the ends of the cone, or none
			switch s.below(4) {
			case 0:
				p[2*i], p[2*i+1] = exact.Q{}, exact.Q{}
			case 1:
				p[2*i+1] = p[2*i].Mul(x.Mu[i])
			case 2:
				p[2*i+1] = p[2*i].Mul(x.Mu[i]).Neg()
			}
		}
		want := broken(x, p)
		got, e := contact.Broken(x, p)
		expectOK(t, "Broken", faultsText(got), e, faultsText(want))
		for _, f := range got {
			seen[f.Law]++
		}
	}
	for law := uint8(1); law <= 5; law++ {
		if seen[law] < 50 {
			t.Error("the laws that were broken:", seen)
		}
	}
}

// lawErrors returns what the calls of this file give for a problem and impulses.
func lawErrors(x contact.Problem, p []exact.Q) map[string]api.Errno {
	_, a := contact.After(x, p)
	_, b := contact.Mean(x, p)
	_, c := contact.Work(x, p)
	_, d := contact.Broken(x, p)
	return map[string]api.Errno{"After": a, "Mean": b, "Work": c, "Broken": d}
}

// P5.1, P5.2: impulses that are not as many as the velocities.
func TestLawErrors(t *testing.T) {
	for _, p := range []string{"", "1", "1 2 3", "1 2 3 4"} {
		for call, e := range lawErrors(first(), nums(p)) {
			expectError(t, call+" of "+p, e, api.ErrArg)
		}
	}
	for call, e := range lawErrors(contact.Problem{}, nums("0")) {
		expectError(t, call+" without contacts", e, api.ErrArg)
	}
	for call, e := range lawErrors(hopeless(), nums("0 0")) {
		expectError(t, call+" of a problem without solutions", e, api.OK)
	}
}
