package machine

import (
	"strings"

	"amble/api"
	"amble/exact"
)

// unit is a unit's name, and the fraction that it is of the first unit of its
// kind.
type unit struct {
	name        string
	times, over int64
}

// units returns the units of each kind of quantities.
func units() map[uint8][]unit {
	return map[uint8][]unit{
		Length:    {{"m", 1, 1}, {"cm", 1, 100}, {"mm", 1, 1000}},
		Mass:      {{"kg", 1, 1}, {"g", 1, 1000}, {"t", 1000, 1}},
		Inertia:   {{"kgm2", 1, 1}, {"gcm2", 1, 10000000}, {"kgcm2", 1, 10000}},
		Stiffness: {{"N/m", 1, 1}, {"kN/m", 1000, 1}, {"N/mm", 1000, 1}},
		Torque:    {{"Nm", 1, 1}, {"mNm", 1, 1000}, {"kNm", 1000, 1}},
		Heating:   {{"J/N2m2s", 1, 1}, {"mJ/N2m2s", 1, 1000}},
		Cooling:   {{"Hz", 1, 1}, {"mHz", 1, 1000}},
		Heat:      {{"J", 1, 1}, {"kJ", 1000, 1}},
		Plain:     {{"", 1, 1}},
	}
}

// cutNumber returns the number with which a text begins, and the text behind
// it; false: it does not begin with one.
func cutNumber(s string) (exact.Q, string, bool) {
	digits := strings.TrimPrefix(s, "-")
	rest := strings.TrimLeft(digits, "0123456789./")
	q, e := exact.Parse(s[:len(s)-len(rest)])
	return q, rest, e == api.OK
}

// Quantity returns the value of a quantity, and its tolerance, 0 if there is
// none.
func Quantity(s string, what uint8) (value, tolerance exact.Q, e api.Errno) {
	known, ok := units()[what]
	if !ok {
		return exact.Q{}, exact.Q{}, api.ErrArg
	}
	value, rest, ok := cutNumber(s)
	if !ok {
		return exact.Q{}, exact.Q{}, api.ErrForm
	}
	if amount, has := strings.CutPrefix(rest, "+-"); has {
		tolerance, rest, ok = cutNumber(amount)
		if !ok || amount[0] == '-' {
			return exact.Q{}, exact.Q{}, api.ErrForm
		}
	}
	for _, u := range known {
		if u.name == rest {
			factor, _ := exact.Of(u.times, u.over)
			return value.Mul(factor), tolerance.Mul(factor), api.OK
		}
	}
	return exact.Q{}, exact.Q{}, api.ErrUnit
}
