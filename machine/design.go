package machine

import (
	"slices"

	"amble/api"
	"amble/exact"
)

// full is how many hundredths of its amount a tolerance allows.
const full = 100

// clone returns a copy of m that shares no memory with it.
func (m Machine) clone() Machine {
	m.Bodies = slices.Clone(m.Bodies)
	for i := range m.Bodies {
		m.Bodies[i].Shape = slices.Clone(m.Bodies[i].Shape)
	}
	m.Springs = slices.Clone(m.Springs)
	m.Tendons = slices.Clone(m.Tendons)
	m.Motors = slices.Clone(m.Motors)
	m.Feet = slices.Clone(m.Feet)
	for i := range m.Feet {
		m.Feet[i].Points = slices.Clone(m.Feet[i].Points)
	}
	return m
}

// varied returns the machine with the number of each tolerance changed by as
// many hundredths of its amount as by returns for its index.
func (d Design) varied(by func(i int) int) Machine {
	m := d.Machine.clone()
	find := finder(&m)
	for i, t := range d.Tolerances {
		share, _ := exact.Of(int64(by(i)), full)
		number := find(t.Place)
		*number = number.Add(t.Amount.Mul(share))
	}
	return m
}

// areTolerances reports whether the tolerances have amounts, and places of
// numbers of the machine in increasing order.
func (d Design) areTolerances() bool {
	for i, t := range d.Tolerances {
		if _, ok := Number(d.Machine, t.Place); !ok || t.Amount.Sign() <= 0 {
			return false
		}
		if i > 0 && comparePlaces(d.Tolerances[i-1].Place, t.Place) >= 0 {
			return false
		}
	}
	return true
}

// isExtremeValid reports whether the machine with all amounts less (-100) or
// more (100) is valid.
func (d Design) isExtremeValid(hundredths int) bool {
	return Check(d.varied(func(int) int { return hundredths })) == api.OK
}

// CheckDesign returns the first error of a design.
func CheckDesign(d Design) api.Errno {
	if e := Check(d.Machine); e != api.OK {
		return e
	}
	if !d.areTolerances() || !d.isExtremeValid(-full) || !d.isExtremeValid(full) {
		return api.ErrArg
	}
	return api.OK
}

// Vary returns the machine with each number that has a tolerance changed by so
// many hundredths of its amount.
func Vary(d Design, by []int) (Machine, api.Errno) {
	if e := CheckDesign(d); e != api.OK {
		return Machine{}, e
	}
	if len(by) != len(d.Tolerances) {
		return Machine{}, api.ErrRange
	}
	for _, hundredths := range by {
		if hundredths < -full || hundredths > full {
			return Machine{}, api.ErrRange
		}
	}
	m := d.varied(func(i int) int { return by[i] })
	if e := Check(m); e != api.OK {
		return Machine{}, e
	}
	return m, api.OK
}

// amount returns how much the number at a place may be less or more, 0 if it
// has no tolerance.
func (d Design) amount(p Place) exact.Q {
	for _, t := range d.Tolerances {
		if t.Place == p {
			return t.Amount
		}
	}
	return exact.Q{}
}
