package machine_test

import (
	"strings"
	"testing"

	"amble/api"
	"amble/machine"
)

// measure is a unit of the chapter's table, and its factor.
type measure struct {
	kind         uint8
	name, factor string
}

func measures() []measure {
	return []measure{
		{1, "m", "1"}, {1, "cm", "1/100"}, {1, "mm", "1/1000"},
		{2, "kg", "1"}, {2, "g", "1/1000"}, {2, "t", "1000"},
		{3, "kgm2", "1"}, {3, "gcm2", "1/10000000"}, {3, "kgcm2", "1/10000"},
		{4, "N/m", "1"}, {4, "kN/m", "1000"}, {4, "N/mm", "1000"},
		{5, "Nm", "1"}, {5, "mNm", "1/1000"}, {5, "kNm", "1000"},
		{6, "J/N2m2s", "1"}, {6, "mJ/N2m2s", "1/1000"},
		{7, "Hz", "1"}, {7, "mHz", "1/1000"},
		{8, "J", "1"}, {8, "kJ", "1000"},
		{9, "", "1"},
	}
}

// expectQuantity compares the value and the tolerance of a quantity, in the
// units of machines.
func expectQuantity(t *testing.T, s string, what uint8, value, amount string) {
	t.Helper()
	v, a, e := machine.Quantity(s, what)
	if e != api.OK || v.Cmp(num(value)) != 0 || a.Cmp(num(amount)) != 0 {
		t.Errorf("Quantity(%q, %d): got %s, %s, the error %d, want %s, %s", s, what, v.Text(), a.Text(), e, value, amount)
	}
}

func expectNoQuantity(t *testing.T, s string, what uint8, want api.Errno) {
	t.Helper()
	v, a, e := machine.Quantity(s, what)
	if e != want || v.Sign() != 0 || a.Sign() != 0 {
		t.Errorf("Quantity(%q, %d): got %s, %s, the error %d, want the error %d", s, what, v.Text(), a.Text(), e, want)
	}
}

// P3.1: each unit is one of its own kind, and of no other one.
func TestUnits(t *testing.T) {
	for _, u := range measures() {
		for kind := machine.Length; kind <= machine.Plain; kind++ {
			text := "-7/3+-0.25" + u.name
			if kind != u.kind {
				expectNoQuantity(t, text, kind, api.ErrUnit)
				continue
			}
			value := num("-7/3").Mul(num(u.factor)).Text()
			expectQuantity(t, text, kind, value, num("1/4").Mul(num(u.factor)).Text())
			expectQuantity(t, "-7/3"+u.name, kind, value, "0")
		}
	}
}

// P3.1: the kinds have the numbers 1 to 9.
func TestKinds(t *testing.T) {
	kinds := []uint8{machine.Length, machine.Mass, machine.Inertia, machine.Stiffness, machine.Torque, machine.Heating, machine.Cooling, machine.Heat, machine.Plain}
	for i, kind := range kinds {
		if int(kind) != i+1 {
			t.Error("the kind", i+1, "has the number", kind)
		}
	}
	for _, kind := range []uint8{0, 10, 11, 128, 255} {
		for _, s := range []string{"1m", "1", "", "x", "1x", "1+-xm"} {
			expectNoQuantity(t, s, kind, api.ErrArg)
		}
	}
}

// P3.1: quantities.
func TestQuantity(t *testing.T) {
	expectQuantity(t, "12+-0.1mm", machine.Length, "3/250", "1/10000")
	expectQuantity(t, "250+-2mm", machine.Length, "1/4", "1/500")
	expectQuantity(t, "-1/2m", machine.Length, "-1/2", "0")
	expectQuantity(t, "0kg", machine.Mass, "0", "0")
	expectQuantity(t, "-0kg", machine.Mass, "0", "0")
	expectQuantity(t, "0.8+-0.1", machine.Plain, "4/5", "1/10")
	expectQuantity(t, "-3", machine.Plain, "-3", "0")
	expectQuantity(t, "1.50+-6/4N/m", machine.Stiffness, "3/2", "3/2")
	expectQuantity(t, "1+-0m", machine.Length, "1", "0")
	expectQuantity(t, "-1+-2m", machine.Length, "-1", "2")
	expectQuantity(t, "1/2J/N2m2s", machine.Heating, "1/2", "0")
	long := strings.Repeat("7", api.MaxNumber)
	expectQuantity(t, long+"m", machine.Length, long, "0")
	expectQuantity(t, "1+-"+long+"m", machine.Length, "1", long)
}

// P3.1: texts that are no quantities.
func TestNoQuantity(t *testing.T) {
	tooLong := strings.Repeat("7", api.MaxNumber+1)
	numbers := []string{"", "x", "m", "-", "-m", "+1m", "--1m", "- 1m", " 1m", "\t1m", "01m", "1.m", ".5m", "1..2m", "1.2.3m", "1/m", "/2m", "1//2m", "1/2/3m", "1/2.5m", "1.5/2m", "1/0m", "1/02m", "-x", "#1m", tooLong + "m"}
	for _, s := range numbers {
		expectNoQuantity(t, s, machine.Length, api.ErrForm)
		expectNoQuantity(t, s+"kg", machine.Length, api.ErrForm)
		if s != "" {
			expectNoQuantity(t, s, machine.Plain, api.ErrForm)
		}
		expectNoQuantity(t, "1+-"+s, machine.Length, api.ErrForm)
		expectNoQuantity(t, "1+-"+s+"kg", machine.Length, api.ErrForm)
	}
	for _, s := range []string{"1+--1m", "1+-+1m", "1+-+-1m", "1+--0m", "1+-"} {
		expectNoQuantity(t, s, machine.Length, api.ErrForm)
	}
}

// P3.1: units that are none.
func TestNoUnit(t *testing.T) {
	for _, s := range []string{"1", "1+-2", "1M", "1 m", "1m ", "1m2", "1mmm", "1m1", "1+1m", "1+", "1-1m", "1-", "1+-1-1m", "1+-1+-1m", "1µm", "1e3m", "1,5m", "1+ -1m", "1 +-1m", "1+-1 m", "1km", "1\x00m", "1m\n", "1dm"} {
		expectNoQuantity(t, s, machine.Length, api.ErrUnit)
	}
	for _, s := range []string{"1m", "1 ", "1+-1 ", "1+-1m", "1-", "1x", "1%"} {
		expectNoQuantity(t, s, machine.Plain, api.ErrUnit)
	}
	for kind := machine.Length; kind < machine.Plain; kind++ {
		expectNoQuantity(t, "1", kind, api.ErrUnit)
		expectNoQuantity(t, "1+-1", kind, api.ErrUnit)
	}
}
