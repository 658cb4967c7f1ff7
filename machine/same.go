package machine

import (
	"slices"

	"amble/exact"
)

// Same reports whether two machines are equal in all fields.
func Same(a, b Machine) bool {
	return a.Name == b.Name &&
		slices.EqualFunc(a.Bodies, b.Bodies, sameBody) &&
		slices.EqualFunc(a.Springs, b.Springs, sameSpring) &&
		slices.EqualFunc(a.Tendons, b.Tendons, sameTendon) &&
		slices.EqualFunc(a.Motors, b.Motors, sameMotor) &&
		slices.EqualFunc(a.Feet, b.Feet, sameFoot)
}

func sameNumber(a, b exact.Q) bool { return a.Cmp(b) == 0 }

func samePoint(a, b exact.Point) bool { return sameNumber(a.X, b.X) && sameNumber(a.Z, b.Z) }

func samePoints(a, b []exact.Point) bool { return slices.EqualFunc(a, b, samePoint) }

func sameBody(a, b Body) bool {
	return a.Name == b.Name && a.Parent == b.Parent &&
		samePoint(a.At, b.At) && samePoint(a.Centre, b.Centre) &&
		sameNumber(a.Mass, b.Mass) && sameNumber(a.Inertia, b.Inertia) &&
		sameNumber(a.Low, b.Low) && sameNumber(a.High, b.High) &&
		samePoints(a.Shape, b.Shape)
}

func sameSpring(a, b Spring) bool {
	return a.A == b.A && a.B == b.B && sameNumber(a.Stiff, b.Stiff) &&
		samePoint(a.From, b.From) && samePoint(a.To, b.To)
}

func sameTendon(a, b Tendon) bool {
	return a.A == b.A && a.B == b.B && sameNumber(a.Length, b.Length) &&
		samePoint(a.From, b.From) && samePoint(a.To, b.To)
}

func sameMotor(a, b Motor) bool {
	return a.Body == b.Body && sameNumber(a.Torque, b.Torque) && sameNumber(a.Heating, b.Heating) &&
		sameNumber(a.Cooling, b.Cooling) && sameNumber(a.Most, b.Most)
}

func sameFoot(a, b Foot) bool {
	return a.Body == b.Body && sameNumber(a.Friction, b.Friction) && samePoints(a.Points, b.Points)
}
