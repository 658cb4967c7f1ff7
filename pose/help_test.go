package pose_test

import (
	"math/big"
	"slices"
	"strconv"
	"strings"
	"testing"

	"amble/api"
	"amble/exact"
	"amble/machine"
	"amble/pose"
)

// The tests call package pose through what it exports. What they expect is
// written out, or found in another way: points of bodies by going down from
// hinge to hinge, postures by counting where two circles meet, verdicts by
// looking at what they say.

// num returns the number of a text.
func num(s string) exact.Q {
	q, e := exact.Parse(s)
	if e != api.OK {
		panic("not a number: " + s)
	}
	return q
}

// nums returns the numbers of texts with blanks between them.
func nums(s string) []exact.Q {
	var l []exact.Q
	for _, word := range strings.Fields(s) {
		l = append(l, num(word))
	}
	return l
}

// at returns the point of a text like "0 1/2".
func at(s string) exact.Point {
	l := nums(s)
	return exact.Point{X: l[0], Z: l[1]}
}

// points returns the points of a text like "0 0, 1 0, 0 1".
func points(s string) []exact.Point {
	var l []exact.Point
	for part := range strings.SplitSeq(s, ",") {
		l = append(l, at(part))
	}
	return l
}

// surd returns the number with a root of a text like "1/2" or "0 1/12 48".
func surd(s string) exact.Surd {
	l := append(nums(s), exact.Q{}, exact.Q{})
	return exact.Surd{A: l[0], B: l[1], D: l[2]}
}

// walker returns the machine of the chapter's examples.
func walker() machine.Machine {
	return machine.Machine{Name: "walker", Bodies: []machine.Body{
		{Name: "trunk", Parent: -1, Mass: num("2"), Inertia: num("1")},
		{Name: "leg", Parent: 0, Mass: num("1"), Inertia: num("1"), Centre: at("0 -1"), Low: num("-1"), High: num("1")},
		{Name: "shin", Parent: 1, At: at("0 -2"), Mass: num("1"), Inertia: num("1"), Centre: at("0 -1"), Low: num("-1"), High: num("1")},
	}}
}

// standing returns the pose of the chapter's examples, with joints.
func standing(joints string) pose.Pose {
	return pose.Pose{At: at("0 4"), Joints: nums(joints)}
}

// legged returns a machine with two legs of two bodies each, and an arm, and a
// pose in which all frames are turned.
func legged() (machine.Machine, pose.Pose) {
	m := machine.Machine{
		Name: "legged",
		Bodies: []machine.Body{
			{Name: "trunk", Parent: -1, Mass: num("5"), Inertia: num("1"), Centre: at("1/5 1/3"), Shape: points("-1 -1/2, 1 -1/2, 1 1/2, -1 1/2")},
			{Name: "thigh", Parent: 0, At: at("-3/4 -1/2"), Mass: num("2"), Inertia: num("1/11"), Centre: at("1/100 -1/2"), Low: num("-1"), High: num("3/5"), Shape: points("-1/8 0, -1/9 -1, 1/9 -1, 1/8 0")},
			{Name: "shin", Parent: 1, At: at("1/50 -1"), Mass: num("5/4"), Inertia: num("1/21"), Centre: at("1/51 -1/2"), Low: num("-1/3"), High: num("3/2")},
			{Name: "arm", Parent: 0, At: at("-1/3 1/2"), Mass: num("3/4"), Inertia: num("1/31"), Centre: at("-1/32 1/2"), Low: num("-7/2"), High: num("-3"), Shape: points("-1/7 0, 1/8 0, 0 1")},
			{Name: "thigh2", Parent: 0, At: at("3/4 -1/2"), Mass: num("7/3"), Inertia: num("1/12"), Centre: at("1/90 -1/2"), Low: num("-2"), High: num("2"), Shape: points("-1/8 0, 0 -1, 1/8 0")},
			{Name: "shin2", Parent: 4, At: at("-1/60 -1"), Mass: num("1/2"), Inertia: num("1/22"), Centre: at("1/52 -1/3"), Low: num("0"), High: num("5"), Shape: points("-1/8 0, 0 -1, 1/8 0")},
			{Name: "toe", Parent: 5, At: at("1/10 -1"), Mass: num("1/8"), Inertia: num("1/23"), Centre: at("1/4 -1/9"), Low: num("-4"), High: num("-1/4")},
		},
		Springs: []machine.Spring{{A: 0, B: 2, From: at("1 2"), To: at("3 4"), Stiff: num("5")}},
		Tendons: []machine.Tendon{
			{A: 2, B: 0, From: at("1/7 -1/3"), To: at("1/4 1/5"), Length: num("3")},
			{A: 1, B: 3, From: at("2/5 3/5"), To: at("-4/5 1"), Length: num("1/2")},
		},
		Motors: []machine.Motor{{Body: 1, Torque: num("61"), Heating: num("1"), Cooling: num("1"), Most: num("64")}},
		Feet: []machine.Foot{
			{Body: 2, Points: points("-1/8 -1, 1/4 -5/4"), Friction: num("4/5")},
			{Body: 6, Points: points("1/9 -2/9"), Friction: num("9/10")},
			{Body: 3, Points: points("0 2, 1 0"), Friction: num("0")},
		},
	}
	return m, pose.Pose{At: at("7/2 9/4"), Turn: num("-1/7"), Joints: nums("1/3 1/2 -2 -3/4 6 -1/4")}
}

func pointText(p exact.Point) string { return "(" + p.X.Text() + " " + p.Z.Text() + ")" }

func pointsText(l []exact.Point) string {
	text := ""
	for _, p := range l {
		text += pointText(p)
	}
	return "[" + text + "]"
}

func listsText(l [][]exact.Point) string {
	text := ""
	for _, points := range l {
		text += pointsText(points)
	}
	return text
}

func numsText(l []exact.Q) string {
	var words []string
	for _, q := range l {
		words = append(words, q.Text())
	}
	return "[" + strings.Join(words, " ") + "]"
}

func matText(m [][]exact.Q) string {
	text := ""
	for _, l := range m {
		text += numsText(l)
	}
	return text
}

func intsText(l []int) string {
	var words []string
	for _, n := range l {
		words = append(words, strconv.Itoa(n))
	}
	return strings.Join(words, " ")
}

func pairsText(l [][2]int) string {
	var words []string
	for _, pair := range l {
		words = append(words, intsText(pair[:]))
	}
	return strings.Join(words, ", ")
}

func surdText(s exact.Surd) string { return numsText([]exact.Q{s.A, s.B, s.D}) }

func bendsText(l []pose.Bend) string {
	text := ""
	for _, b := range l {
		text += surdText(b.A) + surdText(b.B) + strconv.FormatBool(b.Within) + ";"
	}
	return text
}

func frameText(f pose.Frame) string {
	return pointText(f.At) + numsText([]exact.Q{f.Rot.C, f.Rot.S})
}

func framesText(l []pose.Frame) string {
	text := ""
	for _, f := range l {
		text += frameText(f)
	}
	return text
}

func verdictText(v pose.Verdict) string {
	return strconv.FormatBool(v.Common) + pointText(v.Point) + pointText(v.Normal) + v.Offset.Text() + numsText(v.Weights)
}

func poseText(p pose.Pose) string {
	return pointText(p.At) + p.Turn.Text() + numsText(p.Joints)
}

// machineText returns a text with all that concerns poses.
func machineText(m machine.Machine) string {
	text := strconv.Quote(m.Name)
	for _, b := range m.Bodies {
		text += b.Name + intsText([]int{b.Parent}) + pointsText([]exact.Point{b.At, b.Centre}) + numsText([]exact.Q{b.Mass, b.Inertia, b.Low, b.High}) + pointsText(b.Shape)
	}
	for _, s := range m.Springs {
		text += intsText([]int{s.A, s.B}) + pointsText([]exact.Point{s.From, s.To}) + s.Stiff.Text()
	}
	for _, s := range m.Tendons {
		text += intsText([]int{s.A, s.B}) + pointsText([]exact.Point{s.From, s.To}) + s.Length.Text()
	}
	for _, o := range m.Motors {
		text += intsText([]int{o.Body}) + numsText([]exact.Q{o.Torque, o.Heating, o.Cooling, o.Most})
	}
	for _, f := range m.Feet {
		text += intsText([]int{f.Body}) + pointsText(f.Points) + f.Friction.Text()
	}
	return text
}

// expect compares what a call gave with what it should give.
func expect(t *testing.T, call, got, want string) {
	t.Helper()
	if got != want {
		t.Errorf("%s: got %s, want %s", call, got, want)
	}
}

func expectError(t *testing.T, call string, got, want api.Errno) {
	t.Helper()
	if got != want {
		t.Errorf("%s: got the error %d, want %d", call, got, want)
	}
}

// expectOK compares what a call gave that should have no error.
func expectOK(t *testing.T, call, got string, e api.Errno, want string) {
	t.Helper()
	expectError(t, call, e, api.OK)
	expect(t, call, got, want)
}

// world is the world point of a point of a body, found from the body upward.
func world(m machine.Machine, p pose.Pose, body int, point exact.Point) exact.Point {
	for ; body > 0; body = m.Bodies[body].Parent {
		point = m.Bodies[body].At.Add(point.Turn(exact.Turn(p.Joints[body-1])))
	}
	return p.At.Add(point.Turn(exact.Turn(p.Turn)))
}

// worldOf returns what World gives, which should have no error.
func worldOf(t *testing.T, m machine.Machine, p pose.Pose, body int, point exact.Point) exact.Point {
	t.Helper()
	got, e := pose.World(m, p, body, point)
	expectError(t, "World", e, api.OK)
	return got
}

// float returns a number nearly.
func float(q exact.Q) float64 {
	r, ok := new(big.Rat).SetString(q.Text())
	if !ok {
		panic(q.Text())
	}
	f, _ := r.Float64()
	return f
}

// source gives numbers that look random; the same ones in each run.
type source uint64

func (s *source) next() uint64 {
	*s += 0x9e3779b97f4a7c15
	x := uint64(*s)
	x = (x ^ x>>30) * 0xbf58476d1ce4e5b9
	x = (x ^ x>>27) * 0x94d049bb133111eb
	return x ^ x>>31
}

func (s *source) below(n int) int { return int(s.next() % uint64(n)) }

// small returns an integer from -most to most.
func (s *source) small(most int) exact.Q { return exact.Int(int64(s.below(2*most+1) - most)) }

// number returns a number from -5 to 5, often an integer.
func (s *source) number() exact.Q {
	under := int64(1)
	if s.below(2) == 0 {
		under = int64(2 + s.below(4))
	}
	q, _ := exact.Of(int64(s.below(int(10*under+1)))-5*under, under)
	return q
}

// positive returns a number above 0.
func (s *source) positive() exact.Q { return s.number().Abs().Add(num("1/7")) }

func (s *source) point() exact.Point { return exact.Point{X: s.number(), Z: s.number()} }

func (s *source) points(count int) []exact.Point {
	l := make([]exact.Point, count)
	for i := range l {
		l[i] = s.point()
	}
	return l
}

// shape returns corners on a circle, in the order of their angles; now and
// then none.
func (s *source) shape() []exact.Point {
	if s.below(4) == 0 {
		return nil
	}
	tangents := []exact.Q{s.number()}
	for range 2 + s.below(4) {
		tangents = append(tangents, tangents[len(tangents)-1].Add(s.positive()))
	}
	size, centre := s.positive(), s.point().Scale(num("1/4"))
	var corners []exact.Point
	for _, tangent := range tangents {
		corners = append(corners, exact.Point{X: size}.Turn(exact.Turn(tangent)).Add(centre))
	}
	return corners
}

// two returns two of n bodies.
func (s *source) two(n int) (a, b int) {
	a = s.below(n)
	return a, (a + 1 + s.below(n-1)) % n
}

// machine returns any valid machine with at most so many bodies.
func (s *source) machine(most int) machine.Machine {
	m := machine.Machine{Name: "m" + strconv.Itoa(s.below(1000))}
	n := 1 + s.below(most)
	for i := range n {
		b := machine.Body{Name: "b" + strconv.Itoa(i), Parent: -1, Mass: s.positive(), Inertia: s.positive(), Centre: s.point(), Shape: s.shape()}
		if i > 0 {
			b.Parent, b.At, b.Low = max(s.below(i), s.below(i)), s.point(), s.number()
			b.High = b.Low.Add(s.positive())
		}
		m.Bodies = append(m.Bodies, b)
	}
	for range s.below(4) {
		l := s.points(2)
		l[1] = l[0].Add(exact.Point{X: s.number(), Z: s.positive()})
		m.Feet = append(m.Feet, machine.Foot{Body: s.below(n), Points: l[s.below(2):], Friction: s.number().Abs()})
	}
	for range s.below(5) * min(1, n-1) {
		a, b := s.two(n)
		m.Tendons = append(m.Tendons, machine.Tendon{A: a, B: b, From: s.point(), To: s.point(), Length: s.positive().Add(s.positive())})
	}
	return m
}

// pose returns any pose that fits a machine.
func (s *source) pose(m machine.Machine) pose.Pose {
	p := pose.Pose{At: s.point(), Turn: s.number(), Joints: make([]exact.Q, len(m.Bodies)-1)}
	for i := range p.Joints {
		p.Joints[i] = s.number()
	}
	return p
}

// ground returns any valid ground.
func (s *source) ground() pose.Ground {
	g := pose.Ground{s.point()}
	for range 1 + s.below(5) {
		x := g[len(g)-1].X.Add(s.positive())
		g = append(g, exact.Point{X: x, Z: s.number()})
	}
	return g
}

// with returns a copy of a list in which one element is another one.
func with[T any](l []T, i int, x T) []T {
	l = slices.Clone(l)
	l[i] = x
	return l
}
