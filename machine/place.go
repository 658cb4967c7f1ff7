package machine

import (
	"cmp"

	"amble/exact"
)

// Fields of bodies and feet, as places count them. The number behind that of
// an X is that of its Z.
const (
	bodyX        = 0
	bodyMass     = 2
	bodyLow      = 6
	cornerX      = 8
	footX        = 0
	footFriction = 2
)

// quantity returns the kind of the quantity at a place of a number.
func (p Place) quantity() uint8 {
	kinds := map[uint8][]uint8{
		OfBody:   {Length, Length, Mass, Inertia, Length, Length, Plain, Plain, Length, Length},
		OfSpring: {Length, Length, Length, Length, Stiffness},
		OfTendon: {Length, Length, Length, Length, Length},
		OfMotor:  {Torque, Heating, Cooling, Heat},
		OfFoot:   {Length, Length, Plain},
	}
	return kinds[p.Kind][p.Field]
}

// comparePlaces compares two places in the order of tolerances.
func comparePlaces(a, b Place) int {
	return cmp.Or(cmp.Compare(a.Kind, b.Kind), cmp.Compare(a.Index, b.Index), cmp.Compare(a.Field, b.Field), cmp.Compare(a.Item, b.Item))
}

// fieldPlaces returns the places of the fields of an element from one field
// up to another, which is not included.
func fieldPlaces(kind uint8, index, from, to int) []Place {
	var places []Place
	for field := from; field < to; field++ {
		places = append(places, Place{kind, index, field, 0})
	}
	return places
}

// pointPlaces returns the places of the X and Z of points of an element; field
// is that of X.
func pointPlaces(kind uint8, index, field, count int) []Place {
	var places []Place
	for item := range count {
		places = append(places, Place{kind, index, field, item}, Place{kind, index, field + 1, item})
	}
	return places
}

// finder returns the function that finds the numbers of m: it returns a
// pointer to the one at a place, nil if there is none.
func finder(m *Machine) func(Place) *exact.Q {
	kinds := map[uint8]func(Place) *exact.Q{
		OfBody:   func(p Place) *exact.Q { return findIn(m.Bodies, p, (*Body).number) },
		OfSpring: func(p Place) *exact.Q { return findIn(m.Springs, p, (*Spring).number) },
		OfTendon: func(p Place) *exact.Q { return findIn(m.Tendons, p, (*Tendon).number) },
		OfMotor:  func(p Place) *exact.Q { return findIn(m.Motors, p, (*Motor).number) },
		OfFoot:   func(p Place) *exact.Q { return findIn(m.Feet, p, (*Foot).number) },
	}
	return func(p Place) *exact.Q {
		if search, ok := kinds[p.Kind]; ok {
			return search(p)
		}
		return nil
	}
}

// findIn returns what number finds at a place of an element of l, nil if there
// is none.
func findIn[T any](l []T, p Place, number func(*T, Place) *exact.Q) *exact.Q {
	if p.Index < 0 || p.Index >= len(l) {
		return nil
	}
	return number(&l[p.Index], p)
}

func (b *Body) number(p Place) *exact.Q {
	if p.Field >= cornerX {
		return coordinate(b.Shape, p.Item, p.Field-cornerX)
	}
	return single(p, &b.At.X, &b.At.Z, &b.Mass, &b.Inertia, &b.Centre.X, &b.Centre.Z, &b.Low, &b.High)
}

func (s *Spring) number(p Place) *exact.Q {
	return single(p, &s.From.X, &s.From.Z, &s.To.X, &s.To.Z, &s.Stiff)
}

func (t *Tendon) number(p Place) *exact.Q {
	return single(p, &t.From.X, &t.From.Z, &t.To.X, &t.To.Z, &t.Length)
}

func (m *Motor) number(p Place) *exact.Q {
	return single(p, &m.Torque, &m.Heating, &m.Cooling, &m.Most)
}

func (f *Foot) number(p Place) *exact.Q {
	if p.Field == footFriction && p.Item == 0 {
		return &f.Friction
	}
	return coordinate(f.Points, p.Item, p.Field)
}

// single returns the number of a field, one of those that have no items.
func single(p Place, fields ...*exact.Q) *exact.Q {
	if p.Item != 0 || p.Field < 0 || p.Field >= len(fields) {
		return nil
	}
	return fields[p.Field]
}

// coordinate returns the X (field 0) or the Z (field 1) of a point of l.
func coordinate(l []exact.Point, item, field int) *exact.Q {
	if item < 0 || item >= len(l) {
		return nil
	}
	return single(Place{Field: field}, &l[item].X, &l[item].Z)
}

// Number returns the number of a machine at a place; false: there is none.
func Number(m Machine, p Place) (exact.Q, bool) {
	if number := finder(&m)(p); number != nil {
		return *number, true
	}
	return exact.Q{}, false
}

// bodyPlaces returns the places of the quantities in the line of a body, in
// order, as the functions below do for other lines.
func bodyPlaces(i int) []Place {
	if i == 0 {
		return fieldPlaces(OfBody, i, bodyMass, bodyLow)
	}
	return fieldPlaces(OfBody, i, bodyX, cornerX)
}

func shapePlaces(i, corners int) []Place { return pointPlaces(OfBody, i, cornerX, corners) }

// tiePlaces is for springs and tendons.
func tiePlaces(kind uint8, i int) []Place { return fieldPlaces(kind, i, 0, 5) }

func motorPlaces(i int) []Place { return fieldPlaces(OfMotor, i, 0, 4) }

func footPlaces(i, points int) []Place {
	friction := fieldPlaces(OfFoot, i, footFriction, footFriction+1)
	return append(friction, pointPlaces(OfFoot, i, footX, points)...)
}
