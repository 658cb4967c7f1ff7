package control_test

import (
	"slices"
	"strconv"
	"testing"

	"amble/api"
	"amble/control"
	"amble/exact"
	"amble/hull"
)

// The properties of the chapter, for plans, programs, motors and reins that look
// random.

// point returns a point between the corners of a bounded polyhedron.
func (s *source) point(p hull.Poly) []exact.Q {
	points, _, _ := hull.Corners(p)
	x := points[s.below(len(points))]
	for range s.below(3) {
		other, part := points[s.below(len(points))], s.part()
		mixed := make([]exact.Q, len(x))
		for i := range x {
			mixed[i] = x[i].Add(other[i].Sub(x[i]).Mul(part))
		}
		x = mixed
	}
	return x
}

// P9.9: no point that keeps the errors of the tasks before has a lesser error;
// with a greater budget the errors of a lesser one stay; the choice is proved.
func TestPriorities(t *testing.T) {
	s := source(9900)
	compared, equal := 0, 0
	for range 300 {
		p := s.plan(1 + s.below(4))
		all, e := control.Choose(p, 1<<30)
		expectError(t, "Choose", e, api.OK)
		expectBool(t, "ProveChoice of "+planText(p), control.ProveChoice(p, all), true)
		for k, least := range all.Errors {
			for range 3 {
				x := s.point(kept(p, all.Errors[:k]))
				off, e := control.ErrorOf(p, k, x)
				expectError(t, "ErrorOf", e, api.OK)
				compared++
				if off.Cmp(least) < 0 {
					t.Error("the error", k, "of", planText(p), "is less at", numsText(x))
				}
				if off.Cmp(least) == 0 {
					equal++
				}
			}
		}
		last := 0
		for k := range len(p.Tasks) + 1 {
			budget, _ := control.Cost(p, k-1)
			c, _ := control.Choose(p, budget)
			expectBool(t, "ProveChoice of "+planText(p), control.ProveChoice(p, c), true)
			if len(c.Errors) < last || numsText(c.Errors) != numsText(all.Errors[:len(c.Errors)]) {
				t.Error("with the budget", budget, planText(p), "has the errors", numsText(c.Errors))
			}
			last = len(c.Errors)
		}
	}
	if compared < 1000 || equal < 200 {
		t.Error("only", compared, "points,", equal, "of them with the least error")
	}
}

// among returns an integer of a range.
func (s *source) among(r control.Range) int64 {
	switch s.below(4) {
	case 0:
		return r.Low
	case 1:
		return r.High
	}
	width := uint64(r.High-r.Low) + 1
	return r.Low + int64(s.next()%width)
}

// P9.10: outputs are in the ranges of their operations.
func TestRangesHold(t *testing.T) {
	s := source(9910)
	checked := 0
	for range 3000 {
		p := s.program()
		in, _ := s.ranges(p)
		spread, _, e := control.Ranges(p, in)
		if e != api.OK {
			continue
		}
		for range 4 {
			var values []int64
			for _, r := range in {
				values = append(values, s.among(r))
			}
			out, _, e := control.Eval(p, values)
			expectError(t, "Eval in the ranges of "+programText(p), e, api.OK)
			for i, place := range p.Outputs {
				checked++
				if r := spread[place]; out[i] < r.Low || out[i] > r.High {
					t.Error(out[i], "is not in the range of", place, "in", programText(p))
				}
			}
		}
	}
	if checked < 3000 {
		t.Error("only", checked, "outputs")
	}
}

// P9.11: outputs differ from the ideal ones by at most their bounds.
func TestBoundsHold(t *testing.T) {
	s := source(9911)
	checked, tight := 0, 0
	for range 3000 {
		p := s.program()
		in, _ := s.ranges(p)
		off := s.errors(p.Inputs)
		bounds, e := control.Bounds(p, in, off)
		if e != api.OK {
			continue
		}
		for range 4 {
			var values []int64
			var ideal []exact.Q
			for i, r := range in {
				values = append(values, s.among(r))
				ideal = append(ideal, exact.Int(values[i]).Add(off[i].Mul(s.one("-1 1 0 1/2"))))
			}
			out, _, e := control.Eval(p, values)
			expectError(t, "Eval", e, api.OK)
			want, e := control.Ideal(p, ideal)
			expectError(t, "Ideal", e, api.OK)
			for i, place := range p.Outputs {
				checked++
				gap := exact.Int(out[i]).Sub(want[i]).Abs()
				if gap.Cmp(bounds[place]) > 0 {
					t.Error("the output", i, "of", programText(p), "is off by", gap.Text())
				}
				if gap.Sign() > 0 && gap.Cmp(bounds[place]) == 0 {
					tight++
				}
			}
		}
	}
	if checked < 3000 || tight < 50 {
		t.Error("only", checked, "outputs,", tight, "at their bounds")
	}
}

// P9.12: the outputs of the program of a law are between its limits, and not far
// from its values.
func TestLaws(t *testing.T) {
	s := source(9912)
	checked, limited := 0, 0
	for range 3000 {
		l, frac := s.law(), s.below(9)
		p, e := control.Compile(l, []int{16, 24, 62}[s.below(3)], frac)
		if e != api.OK {
			continue
		}
		var in []int64
		size, x := num("1"), make([]exact.Q, p.Inputs)
		for i := range p.Inputs {
			in = append(in, s.whole(9))
			x[i] = exact.Int(in[i])
			size = size.Add(x[i].Abs())
		}
		out, _, e := control.Eval(p, in)
		if e != api.OK {
			continue
		}
		most := num("2").Add(power(-frac - 1).Mul(size))
		for i, n := range out {
			u, _ := exact.Apply(l.K[i:i+1], x)
			value, got := u[0].Add(l.C[i]), exact.Int(n)
			want := inside(l.Low[i], value, l.High[i])
			checked++
			if want.Cmp(value) != 0 {
				limited++
			}
			if !isIn(l.Low[i], got, l.High[i]) || got.Sub(want).Abs().Cmp(most) > 0 {
				t.Error("the law", lawText(l), "gives", n, "for", want.Text())
			}
		}
	}
	if checked < 1000 || limited < 200 || checked-limited < 200 {
		t.Error("only", checked, "outputs,", limited, "of them at a limit")
	}
}

// P9.13: the heat is never above Most.
func TestHeat(t *testing.T) {
	s := source(9913)
	full := 0
	for range 1500 {
		h, f := s.heater(), s.fault()
		wanted := s.wishes(24)
		cycles, e := h.watch(wanted, f)
		expectError(t, "Watch of "+h.text(), e, api.OK)
		for i, c := range cycles {
			if !isIn(exact.Q{}, c.Heat, h.Most) || c.Torque.Abs().Cmp(h.Torque) > 0 {
				t.Error("in the cycle", i, "the heat of", h.text(), "is", c.Heat.Text())
			}
			if c.Heat.Cmp(h.Most) == 0 {
				full++
			}
		}
	}
	if full < 500 {
		t.Error("only", full, "cycles end with the greatest heat")
	}
}

// P9.13: a motor that wants all it can, with a fault of each kind at each cycle.
func TestHeatAtTheLimit(t *testing.T) {
	h := heated("10 1 1/10 8", "1 0", 3, 6)
	for kind := range uint8(4) {
		for at := range 20 {
			cycles, e := h.watch(times(30, num("100")), control.Fault{Kind: kind, At: at})
			expectError(t, "Watch", e, api.OK)
			isHot := func(c control.Cycle) bool { return c.Heat.Cmp(h.Most) > 0 }
			if i := slices.IndexFunc(cycles, isHot); i >= 0 {
				t.Error("a fault of the kind", kind, "at", at, "makes the cycle", i, "too hot")
			}
			for i := at + 3; kind != 0 && i < len(cycles); i++ {
				expect(t, "the torque behind a fault", cycles[i].Torque.Text(), "0")
			}
		}
	}
}

// P9.14: places are between the limits, whatever is lost; without loss all is
// safe; after a loss the speed comes to 0.
func TestJoints(t *testing.T) {
	s := source(9914)
	limits, stopped := 0, 0
	for range 1000 {
		r := s.safe()
		f := s.lost(r.delay)
		motions, e := r.drive(s.wishes(24+r.delay), f)
		expectError(t, "Drive of "+r.text(), e, api.OK)
		last := r.speed
		for i, m := range motions {
			if !isIn(r.Low, m.Place, r.High) || m.Accel.Abs().Cmp(r.Most) > 0 {
				t.Error("in the cycle", i, r.text(), "is at", m.Place.Text(), "by", m.Accel.Text())
			}
			if m.Place.Cmp(r.Low) == 0 || m.Place.Cmp(r.High) == 0 {
				limits++
			}
			now := rider{r.Rein, m.Place, m.Speed, r.delay}
			if is, _ := now.safe(); (f.Long == 0 || i < f.At) && !is {
				t.Error("behind the cycle", i, r.text(), "is not safe:", now.text())
			}
			if f.Long > 0 && i >= f.At+f.Long && m.Speed.Abs().Cmp(exact.Max(exact.Q{}, last.Abs().Sub(r.Step.Mul(r.Most)))) > 0 {
				t.Error("in the cycle", i, r.text(), "does not brake")
			}
			last = m.Speed
		}
		if f.Long > 0 && last.Sign() == 0 {
			stopped++
		}
	}
	if limits < 500 || stopped < 200 {
		t.Error("only", limits, "places at a limit, and", stopped, "stops")
	}
}

// P9.14: with as many cycles as the speed takes, it is 0.
func TestStops(t *testing.T) {
	s := source(9915)
	stops := 0
	for range 400 {
		r := s.safe()
		if r.delay == 0 {
			continue
		}
		f := control.Lost{At: s.below(4), Long: 1 + s.below(r.delay)}
		before, _ := r.drive(s.wishes(f.At), control.Lost{})
		speed := r.speed
		if f.At > 0 {
			speed = before[f.At-1].Speed
		}
		cycles, _ := over(speed, r.Step.Mul(r.Most)).Abs().Ceil().Int64()
		n := f.At + f.Long + int(cycles)
		wanted := slices.Concat(times(f.At, exact.Q{}), s.wishes(n-f.At+2))
		for i, m := range before {
			wanted[i] = m.Accel
		}
		if len(wanted) > api.MaxCycles {
			continue
		}
		stops++
		motions, e := r.drive(wanted, f)
		expectError(t, "Drive", e, api.OK)
		for i, m := range motions {
			if isStill := m.Speed.Sign() == 0; i >= n-1 && !isStill || i == n-2 && i >= f.At+f.Long-1 && isStill {
				t.Error("behind the cycle", i, "of", n, "the speed of", r.text(), "is", m.Speed.Text())
			}
		}
	}
	if stops < 200 {
		t.Error("only", stops, "stops")
	}
}

// P9.15: a number wanted that is allowed is done.
func TestWishes(t *testing.T) {
	s := source(9916)
	done, ends := 0, 0
	for range 3000 {
		r := s.safe()
		wanted := s.one("0 1 -1 1/2 -1/2 1/3 -1/10").Mul(r.Most)
		if s.chance(3) { // what it is held at is allowed, too
			wanted, _ = r.hold(s.one("-1000 1000"))
		}
		if is := r.after(wanted).isSafe(); !is {
			continue
		}
		got, e := r.hold(wanted)
		expectOK(t, "Hold of "+r.text()+", wanted "+wanted.Text(), got.Text(), e, wanted.Text())
		done++
		if wanted.Abs().Cmp(r.Most) == 0 {
			ends++
		}
	}
	if done < 1000 || ends < 200 {
		t.Error("only", strconv.Itoa(done), "wishes that are allowed,", ends, "of them at an end")
	}
}
