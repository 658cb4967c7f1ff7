package wear_test

import (
	"slices"
	"strings"
	"testing"

	"amble/api"
	"amble/exact"
	"amble/wear"
)

// P11.2: the phases of a walk, what the device does, and its work.

// loads returns samples with these loads, the angle 5 and the speed 0.
func loads(s string) []wear.Sample {
	var l []wear.Sample
	for _, q := range nums(s) {
		l = append(l, wear.Sample{Load: q, Angle: num("5")})
	}
	return l
}

// expectPhases compares the phases of a walk with words of their names' first
// two letters.
func expectPhases(t *testing.T, d wear.Device, l []wear.Sample, want string) {
	t.Helper()
	got, e := wear.Phases(d, l)
	var short []string
	for _, phase := range got {
		short = append(short, phaseText(phase)[:2])
	}
	expectOK(t, "Phases of "+samplesText(l), strings.Join(short, " "), e, want)
	acts, e := wear.Act(d, l)
	phases, _ := actions(acts)
	expectOK(t, "Act of "+samplesText(l), phasesText(phases), e, phasesText(got))
}

// P11.2: Phases.
func TestPhases(t *testing.T) {
	held := []string{"Rest Stance 3: 1 9", "Stance Rest 2: 0 0"}
	rivals := []string{"Rest Swing 2: 1 5", "Rest Stance 1: 3 9", "Rest Push 2: 2 4"}
	cases := []struct {
		guards      []string
		loads, want string
	}{
		{nil, "0 1 2", "Re Re Re"},
		{held, "", ""},
		{held, "1 1 1 1", "Re Re St St"},
		{held, "1 1 0 1 1 1", "Re Re Re Re Re St"},           // the count begins anew
		{held, "1 9 5 0 1 0 0", "Re Re St St St St Re"},      // at both ends of the box
		{held, "1 1 1 0 0 1 1 1", "Re Re St St Re Re Re St"}, // and when a guard has fired
		{held, "10 1 1 -1 1 1 1", "Re Re Re Re Re Re St"},
		{rivals, "1 1", "Re Sw"},
		{rivals, "1 3", "Re Sw"}, // two could fire: the first one does
		{rivals, "3", "St"},
		{rivals, "2 2", "Re Sw"},
		{rivals, "0 2 0 6", "Re Re Re St"},
		{slices.Insert(slices.Clone(rivals), 0, "Rest Push 2: 2 4"), "2 2", "Re Pu"},
		{[]string{"Rest Stop 1: 1 1", "Stop Rest 1: 1 1"}, "1 1 1 0 1", "St Re St St Re"}, // back at once
		{[]string{"Stance Stop 1: 0 9"}, "1 2 3", "Re Re Re"},
		{[]string{"Rest Stance 8: 0 9", "Stance Stop 8: 0 9"}, "1 1 1 1 1 1 1 1 1 1 1 1 1 1 1 1 1", "Re Re Re Re Re Re Re St St St St St St St St St St"},
		{[]string{"Rest Push 1: 1 1", "Push Swing 1: 1 1", "Swing Stop 1: 1 1", "Stop Stance 1: 1 1", "Stance Rest 1: 1 1"}, "1 1 1 1 1 1", "Pu Sw St St Re Pu"},
		{[]string{"Rest Push 2: 1 1", "Rest Push 2: 1 1"}, "1 1", "Re Pu"},
	}
	for _, c := range cases {
		expectPhases(t, device(c.guards...), loads(c.loads), c.want)
	}
	corner := device("Rest Stop 1: 1 2, 3 4, 5 6")
	for _, in := range []string{"1 3 5", "2 4 6", "3/2 7/2 11/2", "1 4 5"} {
		expectPhases(t, corner, samples(in), "St")
	}
	for _, out := range []string{"0 3 5", "5/2 3 5", "1 2 5", "1 5 5", "1 3 9/2", "1 3 7"} {
		expectPhases(t, corner, samples(out), "Re")
	}
}

// P11.2: Act. The chapter's device has the moment 10 at the angle 5, and moves
// towards it in steps of 6.
func TestAct(t *testing.T) {
	onStop := func(bounds string) wear.Device {
		return changed(device("Rest Stop 1: 100 200"), func(d *wear.Device) { d.Limits[wear.Stop] = limit(bounds) })
	}
	cases := []struct {
		name  string
		d     wear.Device
		walk  string
		want  string
		phase string
	}{
		{"no samples", leg(), "", "[]", ""},
		{"a rate that holds back", device(), "0 10 0, 0 10 0, 0 10 0, 0 0 0, 0 0 0, 0 -9 0", "[6 12 15 9 3 0]", "Rest Rest Rest Rest Rest Rest"},
		{"curves below 0", changed(device(), func(d *wear.Device) { d.Curves[0] = curve("0 -20, 10 20") }), "0 0 0, 0 0 0, 0 0 0, 0 5 0", "[-6 -12 -15 -9]", "Rest Rest Rest Rest"},
		{"at a stop, against the movement", onStop("15 6"), "0 10 1, 0 10 1, 100 10 -1, 100 10 -1", "[6 12 15 15]", "Rest Rest Stop Stop"},
		{"at a stop, with it", onStop("15 6"), "0 10 1, 0 10 1, 100 10 1, 100 10 1, 100 10 -1", "[6 12 0 0 6]", "Rest Rest Stop Stop Stop"},
		{"at a stop, at rest", onStop("15 6"), "0 10 1, 100 10 0, 100 10 0", "[6 12 15]", "Rest Stop Stop"},
		{"at a stop, the other way", changed(onStop("15 6"), func(d *wear.Device) { d.Curves = times(5, curve("0 -20")) }), "0 0 0, 100 0 -1, 100 0 1, 100 0 0", "[-6 0 -6 -12]", "Rest Stop Stop Stop"},
		{"a phase with a far lesser moment", onStop("1 2"), "0 10 0, 0 10 0, 0 10 0, 100 10 -1, 100 10 -1", "[6 12 15 1 1]", "Rest Rest Rest Stop Stop"},
		{"a rate of 0", onStop("15 0"), "0 10 0, 100 0 0, 100 10 0, 100 10 1, 100 10 0", "[6 6 6 0 0]", "Rest Stop Stop Stop Stop"},
		{"a moment of 0", onStop("0 6"), "0 10 0, 100 10 -1", "[6 0]", "Rest Stop"},
		{"a rate below the moment before", onStop("5 1"), "0 10 0, 0 10 0, 100 0 0, 100 0 0", "[6 12 5 4]", "Rest Rest Stop Stop"},
	}
	for _, c := range cases {
		l := samples(c.walk)
		got, e := wear.Act(c.d, l)
		phases, moments := actions(got)
		expectOK(t, "Act: "+c.name, numsText(moments), e, c.want)
		expect(t, "Act: "+c.name, phasesText(phases), c.phase)
	}
}

// P11.2: Work.
func TestWork(t *testing.T) {
	onStop := device("Rest Stop 1: 100 200", "Stop Push 1: 0 0", "Push Rest 1: 0 0")
	cases := []struct{ walk, want string }{
		{"", "[0 0 0 0 0]"},
		{"50 10 3", "[9/50 0 0 0 0]"},                // 6 times 3 times 1/100
		{"50 10 3, 50 10 -1", "[3/50 0 0 0 0]"},      // and 12 times -1
		{"50 10 3, 100 10 -2", "[9/50 0 0 0 -6/25]"}, // in Stop 12 times -2
		{"50 10 3, 100 10 2", "[9/50 0 0 0 0]"},      // in Stop nothing
		{"100 10 -2, 0 10 5, 0 10 1/2, 50 10 1", "[9/40 0 3/5 0 -3/25]"},
	}
	for _, c := range cases {
		got, e := wear.Work(onStop, samples(c.walk))
		expectOK(t, "Work of "+c.walk, numsText(got), e, c.want)
	}
}

// fires reports whether the last samples since a phase began make a guard fire.
func fires(g wear.Guard, since []wear.Sample) bool {
	if len(since) < g.Hold {
		return false
	}
	for _, s := range since[len(since)-g.Hold:] {
		if !lies(s, g.Box) {
			return false
		}
	}
	return true
}

// recognised returns the phases of samples, found by looking back.
func recognised(d wear.Device, l []wear.Sample) []uint8 {
	var phases []uint8
	now, begin := wear.Rest, 0
	for i := range l {
		for _, g := range d.Guards {
			if g.From == now && fires(g, l[begin:i+1]) {
				now, begin = g.To, i+1
				break
			}
		}
		phases = append(phases, now)
	}
	return phases
}

// clamped returns the middle one of three numbers, of which low is not above
// high.
func clamped(low, q, high exact.Q) exact.Q {
	switch {
	case q.Cmp(low) < 0:
		return low
	case q.Cmp(high) > 0:
		return high
	}
	return q
}

// P11.2: phases, moments and work, compared with a second writing.
func TestWalks(t *testing.T) {
	s := source(1102)
	seen := map[uint8]int{}
	for range 600 {
		d, l := s.walker(), s.samples(1+s.below(40))
		want := recognised(d, l)
		got, e := wear.Phases(d, l)
		expectOK(t, "Phases of "+deviceText(d), phasesText(got), e, phasesText(want))
		acts, e := wear.Act(d, l)
		expectError(t, "Act", e, api.OK)
		var before exact.Q
		work := make([]exact.Q, 5)
		for i, x := range l {
			phase := want[i]
			seen[phase]++
			most := d.Limits[phase]
			moment, _ := wear.At(d.Curves[phase], x.Angle)
			moment = clamped(before.Sub(most.Rate), moment, before.Add(most.Rate))
			moment = clamped(most.Moment.Neg(), moment, most.Moment)
			if phase == wear.Stop && moment.Mul(x.Speed).Sign() > 0 {
				moment = exact.Q{}
			}
			expect(t, "Act", actionsText(acts[i:i+1]), actionsText([]wear.Action{{Phase: phase, Moment: moment}}))
			work[phase] = work[phase].Add(exact.Sum(moment.Mul(x.Speed).Mul(d.Step)))
			before = moment
		}
		sums, e := wear.Work(d, l)
		expectOK(t, "Work", numsText(sums), e, numsText(work))
	}
	for phase := range uint8(5) {
		if seen[phase] < 500 {
			t.Error("only", seen[phase], "cycles in", phaseText(phase))
		}
	}
}

// The limit of samples.
func TestWalkLimits(t *testing.T) {
	d := leg()
	long := times(api.MaxWorn, loads("500")[0])
	phases, e := wear.Phases(d, long)
	expectError(t, "Phases of MaxWorn samples", e, api.OK)
	acts, e := wear.Act(d, long)
	expectError(t, "Act of MaxWorn samples", e, api.OK)
	work, e := wear.Work(d, long)
	expectError(t, "Work of MaxWorn samples", e, api.OK)
	if len(phases) != api.MaxWorn || len(acts) != api.MaxWorn || len(work) != 5 {
		t.Error("MaxWorn samples give", len(phases), "phases,", len(acts), "actions,", len(work), "sums")
	}
	long = append(long, long[0])
	phases, e = wear.Phases(d, long)
	expectError(t, "Phases of more than MaxWorn samples", e, api.ErrLimit)
	acts, more := wear.Act(d, long)
	expectError(t, "Act of more than MaxWorn samples", more, api.ErrLimit)
	work, more = wear.Work(d, long)
	expectError(t, "Work of more than MaxWorn samples", more, api.ErrLimit)
	if len(phases)+len(acts)+len(work) != 0 {
		t.Error("more than MaxWorn samples give something")
	}
}
