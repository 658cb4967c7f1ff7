package machine_test

import (
	"strings"
	"testing"

	"amble/api"
	"amble/exact"
	"amble/machine"
)

// The properties of the chapter, for designs that look random.

// P3.9: what Print returns is read as the design.
func TestPrintedAndRead(t *testing.T) {
	s := source(39)
	designs := []machine.Design{{Machine: rich()}, loose(), parsed(t, hopper())}
	for range 60 {
		designs = append(designs, s.design(t))
	}
	for _, d := range designs {
		text, e := machine.Print(d)
		expectError(t, "Print", e, api.OK)
		again := parsed(t, text)
		expect(t, "Parse of what Print returns", designText(again), designText(d))
		if !machine.Same(again.Machine, d.Machine) {
			t.Error("not the same:", text)
		}
		twice, e := machine.Print(again)
		expectError(t, "Print", e, api.OK)
		expect(t, "Print of what was printed", twice, text)
	}
}

// P3.9: numbers as long as exact reads them.
func TestPrintedLong(t *testing.T) {
	d := machine.Design{Machine: rich()}
	d.Machine.Bodies[1].Centre.Z = num("-" + strings.Repeat("9", 400) + "/" + strings.Repeat("7", 400) + "1")
	d.Tolerances = []machine.Tolerance{tolerance(1, 1, 5, 0, "1/"+strings.Repeat("3", 900))}
	text, e := machine.Print(d)
	expectError(t, "Print", e, api.OK)
	expect(t, "Parse of long numbers", designText(parsed(t, text)), designText(d))
}

// within reports whether each number of m is that of the design, give or take
// its tolerance.
func within(d machine.Design, m machine.Machine) bool {
	amounts := map[machine.Place]exact.Q{}
	for _, tolerance := range d.Tolerances {
		amounts[tolerance.Place] = tolerance.Amount
	}
	numbers, all := spots(&d.Machine), spots(&m)
	if len(numbers) != len(all) {
		return false
	}
	for i, s := range all {
		if s.place != numbers[i].place || s.number.Sub(*numbers[i].number).Abs().Cmp(amounts[s.place]) > 0 {
			return false
		}
	}
	return true
}

// P3.10: zeros, tolerances and weights.
func TestVaried(t *testing.T) {
	s := source(310)
	valid := 0
	for range 80 {
		d := s.design(t)
		by := make([]int, len(d.Tolerances))
		m, e := machine.Vary(d, by)
		expectMachine(t, "Vary by zeros", m, e, d.Machine)
		for i := range by {
			by[i] = s.below(201) - 100
		}
		m, e = machine.Vary(d, by)
		if e != api.OK {
			expectNoMachine(t, "Vary", m, e, api.ErrArg)
			continue
		}
		valid++
		if !within(d, m) {
			t.Errorf("Vary: beyond the tolerances: %s of %s", machineText(m), designText(d))
		}
		weight, e := machine.Weight(m)
		expectError(t, "Weight", e, api.OK)
		low, high, e := machine.Masses(d)
		expectError(t, "Masses", e, api.OK)
		if weight.Cmp(low) < 0 || weight.Cmp(high) > 0 {
			t.Errorf("the weight %s, Masses %s to %s", weight.Text(), low.Text(), high.Text())
		}
	}
	if valid < 30 {
		t.Error("only", valid, "varied machines are valid")
	}
}

// P3.10: the extreme machines are valid, and have the extreme weights.
func TestExtremes(t *testing.T) {
	s := source(311)
	for range 40 {
		d := s.design(t)
		low, high, e := machine.Masses(d)
		expectError(t, "Masses", e, api.OK)
		for hundredths, want := range map[int]exact.Q{-100: low, 100: high} {
			by := make([]int, len(d.Tolerances))
			for i := range by {
				by[i] = hundredths
			}
			m, e := machine.Vary(d, by)
			expectError(t, "Vary", e, api.OK)
			weight, e := machine.Weight(m)
			expectError(t, "Weight", e, api.OK)
			expect(t, "the weight of an extreme machine", weight.Text(), want.Text())
		}
	}
}

// P3.11: mirrors of mirrors, and products of factors.
func TestMirrorsAndFactors(t *testing.T) {
	s := source(312)
	mirror := func(m machine.Machine) machine.Machine {
		t.Helper()
		m, e := machine.Mirror(m)
		expectError(t, "Mirror", e, api.OK)
		return m
	}
	scale := func(m machine.Machine, k exact.Q) machine.Machine {
		t.Helper()
		m, e := machine.Scale(m, k)
		expectError(t, "Scale", e, api.OK)
		return m
	}
	same := func(call string, a, b machine.Machine) {
		t.Helper()
		expect(t, call, machineText(a), machineText(b))
		if !machine.Same(a, b) {
			t.Error(call, "is not Same")
		}
	}
	for range 60 {
		m, k, n := s.machine(), s.positive(), s.positive()
		back, _ := num("1").Div(k)
		same("a mirror of a mirror", mirror(mirror(m)), m)
		same("Scale by 1", scale(m, num("1")), m)
		same("Scale by k and 1/k", scale(scale(m, k), back), m)
		same("Scale by two factors", scale(scale(m, k), n), scale(m, k.Mul(n)))
		same("Scale of a mirror", scale(mirror(m), k), mirror(scale(m, k)))
	}
}

// P3.12: sums of reaches.
func TestReachSums(t *testing.T) {
	s := source(313)
	long := 0
	for range 50 {
		d := s.design(t)
		chain, e := machine.Chain(d.Machine, len(d.Machine.Bodies)-1)
		expectError(t, "Chain", e, api.OK)
		high := func(from, to int) exact.Q {
			t.Helper()
			low, high, e := machine.Reach(d, from, to)
			expectError(t, "Reach", e, api.OK)
			if low.Cmp(high) > 0 || low.Sign() < 0 {
				t.Errorf("Reach: %s to %s", low.Text(), high.Text())
			}
			return high
		}
		a, c := chain[0], chain[len(chain)-1]
		for _, b := range chain {
			expect(t, "the sum of the parts", high(a, b).Add(high(b, c)).Text(), high(a, c).Text())
		}
		if len(chain) > 3 {
			long++
		}
	}
	if long < 10 {
		t.Error("only", long, "long chains")
	}
}
