package pose_test

import (
	"testing"

	"amble/api"
	"amble/machine"
	"amble/pose"
)

// P4.2: which joints are beyond their limits; the limits are not.
func TestBeyond(t *testing.T) {
	for joints, want := range map[string]string{
		"0 0": "", "1 -1": "", "-1 1": "", "1001/1000 0": "1", "0 -1001/1000": "2", "-1001/1000 1001/1000": "1 2", "5 1": "1", "1 5": "2",
	} {
		bodies, e := pose.Beyond(walker(), standing(joints))
		expectOK(t, "Beyond with the joints "+joints, intsText(bodies), e, want)
	}
	m, p := legged() // the joints are 1/3, 1/2, -2, -3/4, 6, -1/4
	for limits, want := range map[[2]string]string{
		{"-1", "3/5"}:     "3 5",
		{"1/3", "1/3"}:    "3 5",
		{"-2", "1/4"}:     "1 3 5",
		{"-2", "333/10"}:  "3 5",
		{"334/1000", "1"}: "1 3 5",
	} {
		m.Bodies[1].Low, m.Bodies[1].High = num(limits[0]), num(limits[1])
		bodies, e := pose.Beyond(m, p)
		expectOK(t, "Beyond with the limits "+limits[0]+" and "+limits[1], intsText(bodies), e, want)
	}
	m.Bodies = m.Bodies[:1]
	bodies, e := pose.Beyond(machine.Machine{Name: "m", Bodies: m.Bodies}, pose.Pose{})
	expectOK(t, "Beyond of a trunk", intsText(bodies), e, "")
}

// tied returns the walker with tendons.
func tied(tendons ...machine.Tendon) machine.Machine {
	m := walker()
	m.Tendons = tendons
	return m
}

func tendon(a, b int, from, to, length string) machine.Tendon {
	return machine.Tendon{A: a, B: b, From: at(from), To: at(to), Length: num(length)}
}

// P4.2: which tendons are too short; one that is just stretched is not.
func TestTight(t *testing.T) {
	m := tied(
		tendon(0, 2, "0 0", "0 -2", "4"),
		tendon(2, 0, "0 -2", "0 0", "3999/1000"),
		tendon(1, 2, "3 0", "0 2", "3"), // of the same place, with the joints 0 and 0, as (0 0) of the leg
		tendon(0, 1, "3 0", "0 -4", "5"),
		tendon(0, 1, "3 0", "0 -4", "4999999/1000000"),
	)
	for joints, want := range map[string]string{"0 0": "1 4", "1 0": "1", "0 1": "2 4", "0 -1": "4", "-1 0": "1 3 4"} {
		tendons, e := pose.Tight(m, standing(joints))
		expectOK(t, "Tight with the joints "+joints, intsText(tendons), e, want)
	}
	tendons, e := pose.Tight(walker(), standing("0 0"))
	expectOK(t, "Tight without tendons", intsText(tendons), e, "")
}

func TestTightOfBranches(t *testing.T) {
	m, p := legged()
	for i, length := range m.Tendons {
		from, to := world(m, p, length.A, length.From), world(m, p, length.B, length.To)
		square := to.Sub(from).Dot(to.Sub(from))
		low, _ := square.Root(40)
		m.Tendons[i].Length = low
		if low.Mul(low).Cmp(square) == 0 {
			t.Fatal("the length is rational")
		}
		tendons, e := pose.Tight(m, p)
		expectOK(t, "Tight, too short by less than 2^-40", intsText(tendons), e, []string{"0 1", "1"}[i])
		m.Tendons[i].Length = low.Add(num("1/1000000000000"))
	}
	tendons, e := pose.Tight(m, p)
	expectOK(t, "Tight, both just long enough", intsText(tendons), e, "")
}

func TestBoundErrors(t *testing.T) {
	wrong := walker()
	wrong.Bodies[1].Low = num("2")
	for want, c := range map[api.Errno]struct {
		m machine.Machine
		p pose.Pose
	}{api.ErrArg: {wrong, standing("0 0")}, api.ErrName: {machine.Machine{}, standing("9 9")}} {
		_, e := pose.Beyond(c.m, c.p)
		expectError(t, "Beyond", e, want)
		_, e = pose.Tight(c.m, c.p)
		expectError(t, "Tight", e, want)
	}
	for _, joints := range []string{"", "9", "9 9 9"} {
		_, e := pose.Beyond(walker(), standing(joints))
		expectError(t, "Beyond", e, api.ErrArg)
		_, e = pose.Tight(walker(), standing(joints))
		expectError(t, "Tight", e, api.ErrArg)
	}
}
