package motion_test

import (
	"slices"
	"strconv"
	"strings"
	"testing"

	"amble/api"
	"amble/contact"
	"amble/exact"
	"amble/machine"
	"amble/motion"
	"amble/pose"
)

// The tests call package motion through what it exports. What they expect is
// written out, or found in another way: rows by what they give for single
// velocities, forces body by body, the velocities of a start by going down from
// hinge to hinge.

// num returns the number of a text.
func num(s string) exact.Q {
	q, e := exact.Parse(s)
	if e != api.OK {
		panic("not a number: " + s)
	}
	return q
}

// nums returns the numbers of texts with blanks between them.
func nums(s string) []exact.Q {
	var l []exact.Q
	for _, word := range strings.Fields(s) {
		l = append(l, num(word))
	}
	return l
}

// at returns the point of a text like "0 1/2".
func at(s string) exact.Point {
	l := nums(s)
	return exact.Point{X: l[0], Z: l[1]}
}

// points returns the points of a text like "0 0, 1 0, 0 1".
func points(s string) []exact.Point {
	var l []exact.Point
	for part := range strings.SplitSeq(s, ",") {
		l = append(l, at(part))
	}
	return l
}

// lists returns the lists of numbers of a text like "1 2, 3 4".
func lists(s string) [][]exact.Q {
	var l [][]exact.Q
	for part := range strings.SplitSeq(s, ",") {
		l = append(l, nums(part))
	}
	return l
}

// rot returns the rotation of a text with its cosine and its sine.
func rot(s string) exact.Rot {
	l := nums(s)
	return exact.Rot{C: l[0], S: l[1]}
}

func level() pose.Ground { return pose.Ground(points("-10 0, 10 0")) }

// ball returns the world of the chapter's examples.
func ball() motion.World {
	return motion.World{
		Machine: machine.Machine{
			Name:   "ball",
			Bodies: []machine.Body{{Name: "ball", Parent: -1, Mass: num("2"), Inertia: num("1")}},
			Feet:   []machine.Foot{{Body: 0, Points: points("0 -1")}},
		},
		Ground: level(), Gravity: num("10"), Step: num("1/10"),
	}
}

// walker returns a world with the machine of chapter 4.
func walker() motion.World {
	w := ball()
	w.Machine = machine.Machine{Name: "walker", Bodies: []machine.Body{
		{Name: "trunk", Parent: -1, Mass: num("2"), Inertia: num("1")},
		{Name: "leg", Parent: 0, Mass: num("1"), Inertia: num("1"), Centre: at("0 -1"), Low: num("-1"), High: num("1")},
		{Name: "shin", Parent: 1, At: at("0 -2"), Mass: num("1"), Inertia: num("1"), Centre: at("0 -1"), Low: num("-1"), High: num("1")},
	}}
	return w
}

// pair returns a world without gravity, high above the ground, with two bodies
// whose centres are at their hinge, and a motor there.
func pair() motion.World {
	return motion.World{
		Machine: machine.Machine{
			Name: "pair",
			Bodies: []machine.Body{
				{Name: "trunk", Parent: -1, Mass: num("1"), Inertia: num("2")},
				{Name: "arm", Parent: 0, Mass: num("3"), Inertia: num("4"), Low: num("-1"), High: num("1")},
			},
			Motors: []machine.Motor{{Body: 1, Torque: num("8"), Heating: num("3"), Cooling: num("1/5"), Most: num("10")}},
		},
		Ground: pose.Ground(points("0 -100, 1 -100")), Step: num("1/2"),
	}
}

// still returns a state of the pair with its centres at 0, with rotations given
// by half tangents, and the velocities of the two angles.
func still(trunk, arm, speeds string) motion.State {
	v := nums(speeds)
	return motion.State{
		At:    make([]exact.Point, 2),
		Rot:   []exact.Rot{exact.Turn(num(trunk)), exact.Turn(num(arm))},
		Speed: []exact.Q{{}, {}, v[0], {}, {}, v[1]},
		Heat:  make([]exact.Q, 1),
	}
}

// start returns the state that Start gives.
func start(t *testing.T, w motion.World, p pose.Pose, speeds string) motion.State {
	t.Helper()
	s, e := motion.Start(w, p, nums(speeds))
	expectError(t, "Start", e, api.OK)
	return s
}

// above returns the state of the ball at a place, with speeds.
func above(t *testing.T, w motion.World, place, speeds string) motion.State {
	t.Helper()
	return start(t, w, pose.Pose{At: at(place)}, speeds)
}

func pointText(p exact.Point) string { return "(" + p.X.Text() + " " + p.Z.Text() + ")" }

func pointsText(l []exact.Point) string {
	text := ""
	for _, p := range l {
		text += pointText(p)
	}
	return "[" + text + "]"
}

func numsText(l []exact.Q) string {
	var words []string
	for _, q := range l {
		words = append(words, q.Text())
	}
	return "[" + strings.Join(words, " ") + "]"
}

func matText(m [][]exact.Q) string {
	text := ""
	for _, l := range m {
		text += numsText(l)
	}
	return text
}

func intsText(l []int) string {
	var words []string
	for _, n := range l {
		words = append(words, strconv.Itoa(n))
	}
	return strings.Join(words, " ")
}

func rotsText(l []exact.Rot) string {
	var numbers []exact.Q
	for _, r := range l {
		numbers = append(numbers, r.C, r.S)
	}
	return numsText(numbers)
}

func stateText(s motion.State) string {
	return pointsText(s.At) + rotsText(s.Rot) + numsText(s.Speed) + numsText(s.Heat)
}

func touchesText(l []motion.Touch) string {
	text := ""
	for _, touch := range l {
		text += intsText([]int{int(touch.Kind), touch.Index, touch.Item}) + pointText(touch.Point) + ";"
	}
	return text
}

func wordText(word []uint8) string {
	text := ""
	for _, mode := range word {
		text += strconv.Itoa(int(mode))
	}
	return text
}

func reportText(r motion.Report) string {
	return strings.Join([]string{touchesText(r.Touches), wordText(r.Word), numsText(r.P), pointsText(r.Blows), r.Work.Text(), intsText(r.Hot)}, "|")
}

func reportsText(l []motion.Report) string {
	text := ""
	for _, r := range l {
		text += "{" + reportText(r) + "}"
	}
	return text
}

func problemText(x contact.Problem) string {
	return matText(x.G) + numsText(x.V) + numsText(x.Mu) + x.E.Text()
}

func systemText(s contact.System) string {
	return problemText(s.Problem) + "|" + numsText(s.Free) + "|" + matText(s.Lift)
}

func poseText(p pose.Pose) string {
	return pointText(p.At) + p.Turn.Text() + numsText(p.Joints)
}

// machineText returns a text with all of a machine.
func machineText(m machine.Machine) string {
	text := strconv.Quote(m.Name)
	for _, b := range m.Bodies {
		text += b.Name + intsText([]int{b.Parent}) + pointsText([]exact.Point{b.At, b.Centre}) + numsText([]exact.Q{b.Mass, b.Inertia, b.Low, b.High}) + pointsText(b.Shape)
	}
	for _, s := range m.Springs {
		text += intsText([]int{s.A, s.B}) + pointsText([]exact.Point{s.From, s.To}) + s.Stiff.Text()
	}
	for _, s := range m.Tendons {
		text += intsText([]int{s.A, s.B}) + pointsText([]exact.Point{s.From, s.To}) + s.Length.Text()
	}
	for _, o := range m.Motors {
		text += intsText([]int{o.Body}) + numsText([]exact.Q{o.Torque, o.Heating, o.Cooling, o.Most})
	}
	for _, f := range m.Feet {
		text += intsText([]int{f.Body}) + pointsText(f.Points) + f.Friction.Text()
	}
	return text
}

func worldText(w motion.World) string {
	return machineText(w.Machine) + pointsText(w.Ground) + numsText([]exact.Q{w.Gravity, w.Step, w.E})
}

// expect compares what a call gave with what it should give.
func expect(t *testing.T, call, got, want string) {
	t.Helper()
	if got != want {
		t.Errorf("%s: got %s, want %s", call, got, want)
	}
}

func expectError(t *testing.T, call string, got, want api.Errno) {
	t.Helper()
	if got != want {
		t.Errorf("%s: got the error %d, want %d", call, got, want)
	}
}

// expectOK compares what a call gave that should have no error.
func expectOK(t *testing.T, call, got string, e api.Errno, want string) {
	t.Helper()
	expectError(t, call, e, api.OK)
	expect(t, call, got, want)
}

// stepped returns what Step gives, which should have no error.
func stepped(t *testing.T, name string, w motion.World, s motion.State, torques []exact.Q) (motion.State, motion.Report) {
	t.Helper()
	next, r, e := motion.Step(w, s, torques)
	expectError(t, "Step of "+name, e, api.OK)
	return next, r
}

// with returns a copy of a list in which one element is another one.
func with[T any](l []T, i int, x T) []T {
	l = slices.Clone(l)
	l[i] = x
	return l
}

// copied returns a machine in new memory.
func copied(m machine.Machine) machine.Machine {
	m.Bodies, m.Springs, m.Tendons = slices.Clone(m.Bodies), slices.Clone(m.Springs), slices.Clone(m.Tendons)
	m.Motors, m.Feet = slices.Clone(m.Motors), slices.Clone(m.Feet)
	for i := range m.Bodies {
		m.Bodies[i].Shape = slices.Clone(m.Bodies[i].Shape)
	}
	for i := range m.Feet {
		m.Feet[i].Points = slices.Clone(m.Feet[i].Points)
	}
	return m
}

// changed returns a world that is changed in new memory.
func changed(w motion.World, change func(*motion.World)) motion.World {
	w.Machine, w.Ground = copied(w.Machine), slices.Clone(w.Ground)
	change(&w)
	return w
}
