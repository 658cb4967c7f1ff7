package wear_test

import (
	"math"
	"slices"
	"strings"
	"testing"

	"amble/api"
	"amble/exact"
	"amble/wear"
)

// P11.1, P11.6 and P11.12: devices that are valid, curves, the other side.

// rightDevices returns devices at the limits of what is valid.
func rightDevices() map[string]wear.Device {
	first := guard("Rest Stance 1: " + wide)
	return map[string]wear.Device{
		"the chapter's":      leg(),
		"without guards":     device(),
		"MaxGuards guards":   changed(leg(), func(d *wear.Device) { d.Guards = times(api.MaxGuards, first) }),
		"the least Hold":     device("Rest Stop 1: 0 1"),
		"the greatest Hold":  device("Rest Stop 8: 0 1"),
		"from the last":      device("Stop Swing 2: 0 1"),
		"a single sample":    device("Swing Push 2: 3 3, 1 1, -2 -2"),
		"curves of a point":  changed(leg(), func(d *wear.Device) { d.Curves = times(5, curve("7 3")) }),
		"curves of MaxKnots": changed(leg(), func(d *wear.Device) { d.Curves[4] = curve("1 0, 2 0, 3 0, 4 0, 5 0, 6 0, 7 0, 8 0") }),
		"limits of 0":        changed(leg(), func(d *wear.Device) { d.Limits = make([]wear.Limit, 5) }),
		"a short step":       changed(leg(), func(d *wear.Device) { d.Step = num("1/1000000") }),
	}
}

// wrongDevices returns devices of which one part is not valid.
func wrongDevices() map[string]wear.Device {
	all := map[string]wear.Device{}
	wrong := func(name string, change func(d *wear.Device)) { all[name] = changed(leg(), change) }
	all["nothing"] = wear.Device{}
	wrong("one guard more than MaxGuards", func(d *wear.Device) { d.Guards = times(api.MaxGuards+1, d.Guards[0]) })
	for _, hold := range []int{0, -1, api.MaxHold + 1, math.MinInt, math.MaxInt, 257} {
		wrong("a Hold of "+num("0").Add(exact.Int(int64(hold))).Text(), func(d *wear.Device) { d.Guards[2].Hold = hold })
	}
	for _, phase := range []uint8{5, 6, 128, 255} {
		wrong("From "+phaseText(phase), func(d *wear.Device) { d.Guards[1].From = phase })
		wrong("To "+phaseText(phase), func(d *wear.Device) { d.Guards[1].To = phase })
	}
	for phase := range uint8(5) {
		wrong("from and to "+phaseText(phase), func(d *wear.Device) { d.Guards[0].From, d.Guards[0].To = phase, phase })
	}
	for _, b := range []string{"1 0, 0 0, 0 0", "0 0, 1 0, 0 0", "0 0, 0 0, 1 0", "3 2, 3 2, 3 2", "0 9, 0 9, 1 999/1000"} {
		wrong("the box "+b, func(d *wear.Device) { d.Guards[1].Box = box(b) })
	}
	for i := range 5 {
		for _, c := range []string{"", "1 0, 1 0", "0 0, 2 0, 1 0", "0 0, 1 0, 1 5", "3 0, 2 0", "1 0, 2 0, 3 0, 4 0, 5 0, 6 0, 7 0, 8 0, 9 0"} {
			wrong("curve "+phaseText(uint8(i))+" "+c, func(d *wear.Device) { d.Curves[i] = curve(c) })
		}
		wrong("the moment of "+phaseText(uint8(i)), func(d *wear.Device) { d.Limits[i].Moment = num("-1/1000") })
		wrong("the rate of "+phaseText(uint8(i)), func(d *wear.Device) { d.Limits[i].Rate = num("-1/1000") })
	}
	wrong("no curves", func(d *wear.Device) { d.Curves = nil })
	wrong("four curves", func(d *wear.Device) { d.Curves = d.Curves[:4] })
	wrong("six curves", func(d *wear.Device) { d.Curves = append(d.Curves, curve("0 0")) })
	wrong("no limits", func(d *wear.Device) { d.Limits = nil })
	wrong("four limits", func(d *wear.Device) { d.Limits = d.Limits[:4] })
	wrong("six limits", func(d *wear.Device) { d.Limits = append(d.Limits, limit("1 1")) })
	wrong("a step of 0", func(d *wear.Device) { d.Step = exact.Q{} })
	wrong("a step below 0", func(d *wear.Device) { d.Step = num("-1/100") })
	return all
}

// P11.1: Check.
func TestCheck(t *testing.T) {
	for name, d := range rightDevices() {
		expectError(t, "Check of a device with "+name, wear.Check(d), api.OK)
	}
	for name, d := range wrongDevices() {
		expectError(t, "Check of a device with "+name, wear.Check(d), api.ErrArg)
	}
}

// A device that is not valid comes first, whatever else is wrong.
func TestInvalidDevices(t *testing.T) {
	many := make([]wear.Sample, api.MaxWorn+1)
	for name, d := range wrongDevices() {
		for _, l := range [][]wear.Sample{nil, many} {
			phases, e := wear.Phases(d, l)
			expect(t, "Phases: "+name, phasesText(phases), "")
			expectError(t, "Phases: "+name, e, api.ErrArg)
			acts, e := wear.Act(d, l)
			expect(t, "Act: "+name, actionsText(acts), "[]")
			expectError(t, "Act: "+name, e, api.ErrArg)
			work, e := wear.Work(d, l)
			expect(t, "Work: "+name, numsText(work), "[]")
			expectError(t, "Work: "+name, e, api.ErrArg)
		}
		for _, phase := range []uint8{wear.Rest, wear.Stop, 5, 255} {
			n, e := wear.Latency(d, box("1 0, 0 0, 0 0"), phase)
			expect(t, "Latency: "+name, exact.Int(int64(n)).Text(), "0")
			expectError(t, "Latency: "+name, e, api.ErrArg)
		}
		other, e := wear.Mirror(d)
		expect(t, "Mirror: "+name, deviceText(other), deviceText(wear.Device{}))
		expectError(t, "Mirror: "+name, e, api.ErrArg)
	}
}

// P11.1: At.
func TestAt(t *testing.T) {
	cases := []struct{ curve, angles, want string }{
		{"0 0, 10 20", "-5 0 5 10 20 5/2 -1000000", "0 0 10 20 20 5 0"},
		{"3 7", "2 3 4", "7 7 7"},
		{"-1 5, 0 -5, 2 -5, 3 0", "-2 -1 -1/2 -1/4 0 1 2 5/2 3 4", "5 5 0 -5/2 -5 -5 -5 -5/2 0 0"},
		{"1/3 1/7, 1/2 1/5", "5/12 1/3 1/2", "6/35 1/7 1/5"},
		{"1 1, 2 4, 3 9, 4 16, 5 25, 6 36, 7 49, 8 64", "0 1 3/2 2 7/2 11/2 15/2 8 9", "1 1 5/2 4 25/2 61/2 113/2 64 64"},
	}
	for _, c := range cases {
		wants := nums(c.want)
		for i, angle := range nums(c.angles) {
			got, e := wear.At(curve(c.curve), angle)
			expectOK(t, "At of "+c.curve+" at "+angle.Text(), got.Text(), e, wants[i].Text())
		}
	}
	for _, c := range []string{"", "0 0, 0 0", "1 0, 0 0", "0 0, 2 0, 2 1", "0 0, 2 0, 1 0", "1 0, 2 0, 3 0, 4 0, 5 0, 6 0, 7 0, 8 0, 9 0"} {
		got, e := wear.At(curve(c), num("1"))
		expect(t, "At of the curve "+c, got.Text(), "0")
		expectError(t, "At of the curve "+c, e, api.ErrArg)
	}
}

// P11.1: between two points the moment divides their moments as the angle
// divides their angles.
func TestAtBetween(t *testing.T) {
	s := source(1101)
	for range 500 {
		c := s.curve()
		i := s.below(len(c))
		got, e := wear.At(c, c[i].X)
		expectOK(t, "At of a point", got.Text(), e, c[i].Z.Text())
		if i == 0 {
			continue
		}
		part := s.one("0 1 1/2 1/3 9/10")
		want := c[i-1].Add(c[i].Sub(c[i-1]).Scale(part))
		got, e = wear.At(c, want.X)
		expectOK(t, "At of "+curveText(c)+" at "+want.X.Text(), got.Text(), e, want.Z.Text())
	}
}

// P11.6: Mirror.
func TestMirror(t *testing.T) {
	d := changed(device("Rest Stance 2: 5 7, -3 4, 1 9", "Stance Stop 8: -2 -1, 0 0, -9 -5"), func(d *wear.Device) {
		d.Curves[1] = curve("-1 5, 0 -5, 3 0")
		d.Curves[2] = curve("4 2")
		d.Limits[3] = limit("1 2")
	})
	want := changed(device("Rest Stance 2: 5 7, -4 3, -9 -1", "Stance Stop 8: -2 -1, 0 0, 5 9"), func(d *wear.Device) {
		d.Curves = times(5, curve("-10 -20, 0 0"))
		d.Curves[1] = curve("-3 0, 0 5, 1 -5")
		d.Curves[2] = curve("-4 -2")
		d.Limits[3] = limit("1 2")
	})
	got, e := wear.Mirror(d)
	expectOK(t, "Mirror", deviceText(got), e, deviceText(want))
	bare, e := wear.Mirror(device())
	expectOK(t, "Mirror of a device without guards", deviceText(bare), e, strings.ReplaceAll(deviceText(device()), "([0 0][10 20])", "([-10 -20][0 0])"))
}

// opposite returns the sample of the other side.
func opposite(s wear.Sample) wear.Sample {
	return wear.Sample{Load: s.Load, Angle: s.Angle.Neg(), Speed: s.Speed.Neg()}
}

// P11.12: on the other side all is the same, with opposite moments.
func TestOtherSide(t *testing.T) {
	s := source(1112)
	moved := 0
	for range 300 {
		d := s.walker()
		l := s.samples(12)
		other, e := wear.Mirror(d)
		expectError(t, "Mirror", e, api.OK)
		expectError(t, "Check of the other side", wear.Check(other), api.OK)
		again, e := wear.Mirror(other)
		expectOK(t, "Mirror twice", deviceText(again), e, deviceText(d))
		var turned []wear.Sample
		for _, x := range l {
			turned = append(turned, opposite(x))
		}
		here, _ := wear.Act(d, l)
		there, e := wear.Act(other, turned)
		expectError(t, "Act of the other side", e, api.OK)
		for i, a := range here {
			here[i].Moment = a.Moment.Neg()
			moved += a.Moment.Sign() * a.Moment.Sign()
		}
		expect(t, "Act of the other side", actionsText(there), actionsText(here))
		for i, g := range other.Guards {
			if lies(opposite(l[0]), g.Box) != lies(l[0], d.Guards[i].Box) {
				t.Error("the box", boxText(g.Box), "is not the other side of", boxText(d.Guards[i].Box))
			}
		}
	}
	if moved < 1000 {
		t.Error("only", moved, "moments that are not 0")
	}
}

// The phases have the numbers that the chapter gives them.
func TestPhaseNumbers(t *testing.T) {
	if !slices.Equal([]uint8{wear.Rest, wear.Stance, wear.Push, wear.Swing, wear.Stop}, []uint8{0, 1, 2, 3, 4}) {
		t.Error("the phases have other numbers")
	}
}
