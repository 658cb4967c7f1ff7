package machine_test

import (
	"math"
	"testing"

	"amble/api"
	"amble/exact"
	"amble/machine"
)

// P3.5: the kinds have the numbers 1 to 5.
func TestKindsOfPlaces(t *testing.T) {
	for i, kind := range []uint8{machine.OfBody, machine.OfSpring, machine.OfTendon, machine.OfMotor, machine.OfFoot} {
		if int(kind) != i+1 {
			t.Error("the kind", i+1, "has the number", kind)
		}
	}
}

// expectNumbers looks at all places around those of a machine.
func expectNumbers(t *testing.T, m machine.Machine) {
	t.Helper()
	known := map[machine.Place]exact.Q{}
	for _, s := range spots(&m) {
		known[s.place] = *s.number
	}
	found := 0
	try := func(p machine.Place) {
		t.Helper()
		number, ok := machine.Number(m, p)
		want, there := known[p]
		if ok != there || number.Cmp(want) != 0 {
			t.Errorf("Number at %s: got %s, %t, want %s, %t", placeText(p), number.Text(), ok, want.Text(), there)
		}
		if ok {
			found++
		}
	}
	odd := []int{math.MinInt, -1, 14, 1 << 32, math.MaxInt}
	for _, kind := range []uint8{0, 1, 2, 3, 4, 5, 6, 128, 255} {
		for index := -1; index < 14; index++ {
			for field := -1; field < 12; field++ {
				for item := -1; item < 14; item++ {
					try(machine.Place{Kind: kind, Index: index, Field: field, Item: item})
				}
			}
		}
		for _, n := range odd {
			try(machine.Place{Kind: kind, Index: n})
			try(machine.Place{Kind: kind, Field: n})
			try(machine.Place{Kind: kind, Item: n})
			try(machine.Place{Kind: kind, Field: 8, Item: n})
			try(machine.Place{Kind: kind, Index: n, Field: n, Item: n})
		}
	}
	if found < len(known) {
		t.Error("Number found", found, "of", len(known))
	}
}

// P3.5: Number, of any machine.
func TestNumber(t *testing.T) {
	expectNumbers(t, rich())
	expectNumbers(t, machine.Machine{})
	wrong := rich()
	wrong.Name = ""
	wrong.Bodies[2].Shape = ring(14)
	wrong.Bodies[3] = machine.Body{Shape: points("1 2")}
	wrong.Springs[1].A, wrong.Motors[0].Body, wrong.Tendons[1].Length = -5, 99, num("-1")
	wrong.Feet = append(wrong.Feet, machine.Foot{Body: -1, Points: points("1 2, 1 2, 3 4, 5 6")}, machine.Foot{})
	expectNumbers(t, wrong)
	expectNumbers(t, withBodies(14))
	parts := machine.Machine{Feet: rich().Feet, Motors: rich().Motors, Springs: rich().Springs, Tendons: rich().Tendons}
	expectNumbers(t, parts)
}

func expectVary(t *testing.T, name string, d machine.Design, by []int, want machine.Machine) {
	t.Helper()
	m, e := machine.Vary(d, by)
	expectError(t, "Vary, "+name, e, api.OK)
	expect(t, "Vary, "+name, machineText(m), machineText(want))
}

func expectNoVary(t *testing.T, name string, d machine.Design, by []int, want api.Errno) {
	t.Helper()
	m, e := machine.Vary(d, by)
	expectError(t, "Vary, "+name, e, want)
	expect(t, "Vary, "+name, machineText(m), machineText(machine.Machine{}))
}

// P3.5: Vary changes the numbers with tolerances, and only these.
func TestVary(t *testing.T) {
	d := loose()
	by := make([]int, len(d.Tolerances))
	for i := range by {
		by[i] = (37*i)%201 - 100
	}
	want := rich()
	for _, s := range spots(&want) {
		for i, tolerance := range d.Tolerances {
			if tolerance.Place == s.place {
				*s.number = s.number.Add(tolerance.Amount.Mul(num("1/100")).Mul(exact.Int(int64(by[i]))))
			}
		}
	}
	expectVary(t, "all numbers", d, by, want)
	expectVary(t, "no numbers", machine.Design{Machine: rich()}, nil, rich())
	expectVary(t, "no numbers, an empty list", machine.Design{Machine: rich()}, []int{}, rich())
	for i, tolerance := range d.Tolerances {
		alone := machine.Design{Machine: rich(), Tolerances: []machine.Tolerance{tolerance}}
		for _, hundredths := range []int{-100, -99, -1, 0, 1, 50, 100} {
			want := rich()
			for _, s := range spots(&want) {
				if s.place == tolerance.Place {
					share, _ := exact.Of(int64(hundredths), 100)
					*s.number = s.number.Add(share.Mul(tolerance.Amount))
				}
			}
			expectVary(t, placeText(d.Tolerances[i].Place), alone, []int{hundredths}, want)
		}
	}
}

// P3.5: the errors of Vary, in their order.
func TestVaryErrors(t *testing.T) {
	d := machine.Design{Machine: rich(), Tolerances: []machine.Tolerance{tolerance(1, 1, 6, 0, "9"), tolerance(1, 1, 7, 0, "9")}}
	both := rich()
	both.Bodies[1].Low, both.Bodies[1].High = num("-10"), num("-42/5")
	expectVary(t, "both less", d, []int{-100, -100}, both)
	expectNoVary(t, "one element less", d, []int{0}, api.ErrRange)
	expectNoVary(t, "no element", d, nil, api.ErrRange)
	expectNoVary(t, "one element more", d, []int{0, 0, 0}, api.ErrRange)
	for _, n := range []int{-101, 101, math.MaxInt, math.MinInt} {
		expectNoVary(t, "beyond the first", d, []int{n, 0}, api.ErrRange)
		expectNoVary(t, "beyond the second", d, []int{100, n}, api.ErrRange)
	}
	expectNoVary(t, "Low beyond High", d, []int{100, -100}, api.ErrArg)
	expectNoVary(t, "Low beyond High, and a wrong number", d, []int{100, -101}, api.ErrRange)
	d.Tolerances[1].Amount = exact.Q{}
	expectNoVary(t, "an amount of 0", d, nil, api.ErrArg)
	expectNoVary(t, "an amount of 0, and a wrong number", d, []int{0, 101}, api.ErrArg)
	expectNoVary(t, "nothing", machine.Design{}, []int{1}, api.ErrName)
	expectNoVary(t, "13 bodies", machine.Design{Machine: withBodies(13)}, []int{1}, api.ErrLimit)
	feet := machine.Design{Machine: rich(), Tolerances: []machine.Tolerance{tolerance(5, 0, 0, 0, "2")}}
	feet.Machine.Feet[0].Points = points("0 0, 1 0")
	expectNoVary(t, "points that are equal half way", feet, []int{50}, api.ErrArg)
}
