package control_test

import (
	"math"
	"strconv"
	"testing"

	"amble/api"
	"amble/control"
	"amble/exact"
	"amble/machine"
)

// warmer returns the next heat, by the chapter's formula.
func (h heater) warmer(heat, torque exact.Q) exact.Q {
	gain := h.Heating.Mul(torque).Mul(torque)
	return heat.Add(h.step.Mul(gain.Sub(h.Cooling.Mul(heat))))
}

// isAllowed reports whether a torque is one that the heat h.heat allows, by
// acting in each cycle; whether it is a multiple is not asked.
func (h heater) isAllowed(torque exact.Q) bool {
	heat := h.heat
	for range 1 + h.delay {
		heat = h.warmer(heat, torque)
		if heat.Cmp(h.Most) > 0 {
			return false
		}
	}
	return isIn(exact.Q{}, torque, h.Torque)
}

func (h heater) allowed() (exact.Q, api.Errno) {
	return control.Allowed(h.Motor, h.step, h.heat, h.delay, h.k)
}

func (h heater) watch(wanted []exact.Q, f control.Fault) ([]control.Cycle, api.Errno) {
	return control.Watch(h.Motor, h.step, h.heat, h.delay, h.k, wanted, f)
}

func (h heater) text() string {
	return motorText(h.Motor) + numsText([]exact.Q{h.step, h.heat}) + strconv.Itoa(h.delay) + "," + strconv.Itoa(h.k)
}

// heated returns the heater of texts: the motor, and step and heat.
func heated(m, now string, delay, k int) heater {
	l := nums(now)
	return heater{motor(m), l[0], l[1], delay, k}
}

// P9.7: torques that are written out.
func TestAllowed(t *testing.T) {
	for _, c := range []struct {
		motor, now string
		delay, k   int
		want       string
	}{
		{"10 1 0 8", "1 0", 0, 0, "2"},
		{"10 1 0 8", "1 0", 1, 0, "2"},
		{"10 1 0 8", "1 0", 7, 0, "1"},
		{"10 1 0 8", "1 8", 0, 0, "0"},
		{"10 1 0 8", "1 8", 16, 64, "0"},
		{"10 1 0 8", "1 0", 8, 0, "0"},
		{"10 1 0 8", "1 0", 8, 1, "1/2"},
		{"10 1 0 8", "1 0", 0, 1, "5/2"},
		{"10 1 0 8", "1 4", 0, 0, "2"},
		{"10 1 0 8", "1 401/100", 0, 0, "1"},
		{"10 1 0 8", "1/2 0", 0, 0, "4"},
		{"10 2 0 8", "1/2 0", 0, 0, "2"},
		{"3 1 0 100", "1 0", 0, 0, "3"},
		{"10/3 1 0 100", "1 0", 0, 0, "3"},
		{"10/3 1 0 100", "1 0", 0, 1, "3"},
		{"10/3 1 0 100", "1 0", 0, 2, "13/4"},
		{"0 1 0 8", "1 0", 3, 5, "0"},
		{"10 0 0 8", "1 8", 16, 0, "10"}, // nothing heats
		{"10 0 1/2 8", "1 8", 16, 1, "10"},
		{"7/3 0 0 8", "1 0", 16, 2, "9/4"},
		{"10 1 1/2 8", "1 8", 0, 0, "2"},  // half of it is gone after the cycle
		{"10 1 1/2 8", "1 8", 1, 0, "2"},  // 4, 6, 7 .. with 2
		{"10 1 1/2 8", "1 0", 16, 0, "2"}, // never above 8
		{"10 1 1/2 8", "1 0", 0, 0, "2"},
		{"10 1 1/2 9", "1 0", 0, 0, "3"},
		{"10 1 1/2 9", "1 0", 1, 0, "2"},
		{"10 1 1 9", "1 9", 16, 0, "3"}, // all is gone after each cycle
		{"10 1 2 9", "1/2 9", 16, 0, "4"},
		{"10 1 0 2", "1 0", 0, 64, "26087635650665564424/18446744073709551616"}, // √2
	} {
		h := heated(c.motor, c.now, c.delay, c.k)
		got, e := h.allowed()
		expectOK(t, "Allowed of "+h.text(), got.Text(), e, num(c.want).Text())
	}
}

// P9.7: torques for motors that look random: they are allowed, and the next
// multiple is not.
func TestRandomAllowed(t *testing.T) {
	s := source(970)
	counts := map[string]int{}
	for range 2000 {
		h := s.heater()
		got, e := h.allowed()
		expectError(t, "Allowed of "+h.text(), e, api.OK)
		isMultiple := got.Mul(power(h.k)).Den().Cmp(num("1")) == 0
		if !isMultiple || !h.isAllowed(got) || h.isAllowed(got.Add(power(-h.k))) {
			t.Error("Allowed of", h.text(), "gives", got.Text())
		}
		switch {
		case got.Sign() == 0:
			counts["nothing"]++
		case got.Add(power(-h.k)).Cmp(h.Torque) > 0:
			counts["all"]++
		default:
			counts["some"]++
		}
	}
	if counts["nothing"] < 100 || counts["all"] < 100 || counts["some"] < 100 {
		t.Error("allowed torques:", counts)
	}
}

// expectHeaterError checks the error of both calls with a motor.
func expectHeaterError(t *testing.T, name string, h heater, want api.Errno) {
	t.Helper()
	got, e := h.allowed()
	expectError(t, "Allowed: "+name, e, want)
	cycles, e := h.watch(nums("1 2"), control.Fault{})
	expectError(t, "Watch: "+name, e, want)
	if want != api.OK {
		expect(t, "Allowed: "+name, got.Text(), "0")
		expect(t, "Watch: "+name, cyclesText(cycles), "")
	}
}

// P9.7: errors of motors, steps and heats, delays and k, in their order.
func TestHeaterErrors(t *testing.T) {
	for _, c := range []struct {
		name, motor, now string
		delay, k         int
		want             api.Errno
	}{
		{"all is right", "1 1 1 1", "1 1", 0, 0, api.OK},
		{"all is at its ends", "0 0 0 1/1000", "1/1000 0", 16, 64, api.OK},
		{"a torque below 0", "-1/1000 1 1 1", "1 1", 0, 0, api.ErrArg},
		{"heating below 0", "1 -1/1000 1 1", "1 1", 0, 0, api.ErrArg},
		{"cooling below 0", "1 1 -1/1000 1", "1 1", 0, 0, api.ErrArg},
		{"a Most of 0", "1 1 1 0", "1 0", 0, 0, api.ErrArg},
		{"a Most below 0", "1 1 1 -1", "1 0", 0, 0, api.ErrArg},
		{"a step of 0", "1 1 1 1", "0 1", 0, 0, api.ErrArg},
		{"a step below 0", "1 1 1 1", "-1 1", 0, 0, api.ErrArg},
		{"all cools down", "1 1 2 1", "1/2 1", 0, 0, api.OK},
		{"more than all cools down", "1 1 2 1", "501/1000 1", 0, 0, api.ErrArg},
		{"a heat below 0", "1 1 1 1", "1 -1/1000", 0, 0, api.ErrArg},
		{"a heat of 0", "1 1 1 1", "1 0", 0, 0, api.OK},
		{"a heat above Most", "1 1 1 1", "1 1001/1000", 0, 0, api.ErrArg},
		{"a delay of 16", "1 1 1 1", "1 1", 16, 0, api.OK},
		{"a delay of 17", "1 1 1 1", "1 1", 17, 0, api.ErrRange},
		{"a delay of -1", "1 1 1 1", "1 1", -1, 0, api.ErrRange},
		{"the least delay", "1 1 1 1", "1 1", math.MinInt, 0, api.ErrRange},
		{"the greatest delay", "1 1 1 1", "1 1", math.MaxInt, 0, api.ErrRange},
		{"a k of 64", "1 1 1 1", "1 1", 0, 64, api.OK},
		{"a k of 65", "1 1 1 1", "1 1", 0, 65, api.ErrRange},
		{"a k of -1", "1 1 1 1", "1 1", 0, -1, api.ErrRange},
		{"the least k", "1 1 1 1", "1 1", 0, math.MinInt, api.ErrRange},
		{"the greatest k", "1 1 1 1", "1 1", 0, math.MaxInt, api.ErrRange},
		{"a wrong motor and a wrong delay", "-1 1 1 1", "1 1", -1, 0, api.ErrArg},
		{"a wrong step and a wrong k", "1 1 1 1", "0 1", 0, -1, api.ErrArg},
		{"a wrong heat and a wrong delay", "1 1 1 1", "1 2", 17, 0, api.ErrArg},
	} {
		expectHeaterError(t, c.name, heated(c.motor, c.now, c.delay, c.k), c.want)
	}
	for _, body := range []int{math.MinInt, -1, 0, 1, 7, math.MaxInt} {
		h := heated("1 1 1 1", "1 1", 0, 0)
		h.Body = body
		expectHeaterError(t, "the body "+strconv.Itoa(body), h, api.OK)
	}
}

// P9.7: errors of wishes and faults, in their order.
func TestWatchErrors(t *testing.T) {
	right, wrong := heated("1 1 1 1", "1 1", 0, 0), heated("1 1 1 1", "1 1", 17, 0)
	broken := heated("1 1 1 0", "1 1", 17, 0)
	for _, c := range []struct {
		name   string
		h      heater
		wishes int
		kind   uint8
		at     int
		want   api.Errno
	}{
		{"all is right", right, 3, 0, 0, api.OK},
		{"no wishes", right, 0, 1, 0, api.OK},
		{"MaxCycles wishes", right, api.MaxCycles, 2, 9, api.OK},
		{"more wishes", right, api.MaxCycles + 1, 0, 0, api.ErrLimit},
		{"more wishes, and another fault", right, api.MaxCycles + 1, 4, -1, api.ErrLimit},
		{"a wrong delay, and more wishes", wrong, api.MaxCycles + 1, 4, -1, api.ErrRange},
		{"a wrong motor and all that", broken, api.MaxCycles + 1, 4, -1, api.ErrArg},
		{"a wrong delay, and another fault", wrong, 2, 4, -1, api.ErrRange},
		{"the last fault", right, 2, 3, 0, api.OK},
		{"another fault", right, 2, 4, 0, api.ErrArg},
		{"the greatest fault", right, 2, 255, 0, api.ErrArg},
		{"another fault behind the last cycle", right, 2, 4, 77, api.ErrArg},
		{"another fault, and no cycles", right, 0, 4, 0, api.ErrArg},
		{"At below 0", right, 2, 1, -1, api.ErrArg},
		{"At below 0 of no fault", right, 2, 0, -1, api.ErrArg},
		{"the least At", right, 2, 2, math.MinInt, api.ErrArg},
		{"the greatest At", right, 2, 2, math.MaxInt, api.OK},
		{"the greatest At of none", right, 2, 0, math.MaxInt, api.OK},
	} {
		cycles, e := c.h.watch(make([]exact.Q, c.wishes), control.Fault{Kind: c.kind, At: c.at})
		expectError(t, "Watch: "+c.name, e, c.want)
		n := c.wishes
		if c.want != api.OK {
			n = 0
		}
		expect(t, "the cycles of Watch: "+c.name, strconv.Itoa(len(cycles)), strconv.Itoa(n))
	}
}

// P9.7: watches that are written out: a motor that does not cool, with the heat
// limit 8, so that 2 is allowed up to the heat 4, and 1 up to 7.
func TestWatch(t *testing.T) {
	for _, c := range []struct {
		name   string
		delay  int
		wanted string
		kind   uint8
		at     int
		want   string
	}{
		{"no fault", 0, "5 -5 5 0 9", 0, 0, "[2 4][-2 8][0 8][0 8][0 8]"},
		{"small wishes", 0, "1 -1/2 1/4", 0, 0, "[1 1][-1/2 5/4][1/4 21/16]"},
		{"wishes at what is allowed", 0, "2 -2", 0, 0, "[2 4][-2 8]"},
		{"with a delay", 1, "5 -5 5 0 9", 0, 0, "[2 4][-1 5][1 6][0 6][1 7]"},
		{"with a delay of 7", 7, "5 -5", 0, 0, "[1 1][0 1]"},
		{"no wishes", 0, "", 1, 0, ""},

		{"dead at once", 0, "5 -5 5", 1, 0, "[0 0][0 0][0 0]"},
		{"dead later", 3, "1/2 -1/2 5", 1, 1, "[1/2 1/4][0 1/4][0 1/4]"},
		{"dead in the last cycle", 0, "1 1 1", 1, 2, "[1 1][1 2][0 2]"},
		{"dead behind the last cycle", 0, "1 1 1", 1, 3, "[1 1][1 2][1 3]"},

		{"stuck at once", 2, "5 -5 5 1", 2, 0, "[0 0][0 0][0 0][0 0]"},
		{"stuck later", 2, "1 -1 5 1 1", 2, 1, "[1 1][1 2][1 3][0 3][0 3]"},
		{"stuck with a sign", 1, "-5 5 5 5", 2, 1, "[-2 4][-2 8][0 8][0 8]"},
		{"stuck without a delay", 0, "1 5 5", 2, 1, "[1 1][0 1][0 1]"},
		{"stuck in the last cycle", 2, "1 1/2 5", 2, 2, "[1 1][1/2 5/4][1/2 3/2]"},
		{"stuck behind the last cycle", 2, "1 1 1/2", 2, 3, "[1 1][1 2][1/2 9/4]"},

		{"blind at once", 1, "5 -5 5 1", 3, 0, "[2 4][0 4][0 4][0 4]"},
		{"blind with a delay of 3", 3, "1/2 -5 5 1 1 1", 3, 1, "[1/2 1/4][-1 5/4][1 9/4][1 13/4][0 13/4][0 13/4]"},
		{"the same without a fault", 3, "1/2 -5 5 1 1 1", 0, 1, "[1/2 1/4][-1 5/4][1 9/4][1 13/4][1 17/4][0 17/4]"},
		{"blind with a small wish", 2, "0 1/2 9 9", 3, 0, "[0 0][1/2 1/4][0 1/4][0 1/4]"},
		{"blind without a delay", 0, "1 5 5", 3, 1, "[1 1][0 1][0 1]"},
		{"blind behind the last cycle", 2, "1 1 1/2", 3, 3, "[1 1][1 2][1/2 9/4]"},
	} {
		h := heated("10 1 0 8", "1 0", c.delay, 0)
		got, e := h.watch(nums(c.wanted), control.Fault{Kind: c.kind, At: c.at})
		expectOK(t, "Watch: "+c.name, cyclesText(got), e, c.want)
	}
	cool := heated("10 1 1/2 8", "1 8", 1, 2)
	got, e := cool.watch(nums("9 9 -9 0"), control.Fault{})
	expectOK(t, "Watch of a motor that cools", cyclesText(got), e, "[2 8][2 8][-2 8][0 4]")
}

// watched returns the cycles by the chapter's sentences, with what Allowed gives.
func (h heater) watched(wanted []exact.Q, f control.Fault) []control.Cycle {
	var cycles []control.Cycle
	heats := []exact.Q{h.heat}
	for i, want := range wanted {
		since := i - f.At
		during, behind := since >= 0 && since < h.delay, since >= h.delay
		reader := h
		reader.heat = heats[i]
		if f.Kind == control.Blind && during {
			reader.heat = heats[f.At]
		}
		most, _ := reader.allowed()
		torque := inside(most.Neg(), want, most)
		switch {
		case f.Kind == control.Dead && since >= 0, f.Kind != 0 && behind:
			torque = exact.Q{}
		case f.Kind == control.Stuck && during && f.At == 0:
			torque = exact.Q{}
		case f.Kind == control.Stuck && during:
			torque = cycles[f.At-1].Torque
		}
		heats = append(heats, h.warmer(heats[i], torque))
		cycles = append(cycles, control.Cycle{Torque: torque, Heat: heats[i+1]})
	}
	return cycles
}

// P9.7: watches that look random, compared with a second writing.
func TestRandomWatch(t *testing.T) {
	s := source(971)
	for range 600 {
		h, f, wanted := s.heater(), s.fault(), s.wishes(s.below(16))
		got, e := h.watch(wanted, f)
		name := "Watch of " + h.text() + " with " + numsText(wanted) + ", " + strconv.Itoa(int(f.Kind)) + " at " + strconv.Itoa(f.At)
		expectOK(t, name, cyclesText(got), e, cyclesText(h.watched(wanted, f)))
	}
}

// P9.7: a motor is right exactly if a machine with it is.
func TestMotors(t *testing.T) {
	s := source(972)
	one := num("1")
	m := machine.Machine{Name: "m", Bodies: []machine.Body{
		{Name: "a", Parent: -1, Mass: one, Inertia: one}, {Name: "b", Mass: one, Inertia: one},
	}}
	for range 500 {
		h := s.heater()
		h.Torque, h.Heating, h.Cooling, h.Most = s.one("0 1 -1 2 3"), s.one("0 1 -1 2 3"), s.one("0 1/9 -1 1/8"), s.one("0 1 -1 2 3")
		h.heat = exact.Min(exact.Max(h.heat, exact.Q{}), exact.Max(h.Most, exact.Q{}))
		h.step = num("1/2")
		h.Body = 1
		m.Motors = []machine.Motor{h.Motor}
		_, e := h.allowed()
		expectError(t, "Allowed of "+h.text(), e, machine.Check(m))
	}
}
