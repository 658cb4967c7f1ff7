package balance_test

import (
	"slices"
	"strconv"
	"strings"
	"testing"

	"amble/api"
	"amble/balance"
	"amble/exact"
	"amble/hull"
	"amble/machine"
	"amble/pose"
)

// The tests call package balance through what it exports. What they expect is
// written out, or found in another way: rows by a second writing of the
// chapter's table, forces by their sums, swings by what grows and what decays
// in them, sets by sums and images of polygons, choices by trying them.

// num returns the number of a text.
func num(s string) exact.Q {
	q, e := exact.Parse(s)
	if e != api.OK {
		panic("not a number: " + s)
	}
	return q
}

// nums returns the numbers of texts with blanks between them.
func nums(s string) []exact.Q {
	var l []exact.Q
	for _, word := range strings.Fields(s) {
		l = append(l, num(word))
	}
	return l
}

// lists returns the lists of numbers of a text like "1 2, 3 4"; none of an
// empty text.
func lists(s string) [][]exact.Q {
	var l [][]exact.Q
	if s == "" {
		return l
	}
	for part := range strings.SplitSeq(s, ",") {
		l = append(l, nums(part))
	}
	return l
}

// at returns the point of a text like "0 1/2".
func at(s string) exact.Point {
	l := nums(s)
	return exact.Point{X: l[0], Z: l[1]}
}

// points returns the points of a text like "0 0, 1 0, 0 1".
func points(s string) []exact.Point {
	var l []exact.Point
	for _, part := range lists(s) {
		l = append(l, exact.Point{X: part[0], Z: part[1]})
	}
	return l
}

// contacts returns those of a text with six numbers for each: At, Ground,
// Friction and Most.
func contacts(s string) []balance.Contact {
	var l []balance.Contact
	for _, c := range lists(s) {
		l = append(l, balance.Contact{At: exact.Point{X: c[0], Z: c[1]}, Ground: exact.Point{X: c[2], Z: c[3]}, Friction: c[4], Most: c[5]})
	}
	return l
}

// feet returns the contacts of the chapter's example 1.
func feet() []balance.Contact { return contacts("0 0 1 0 1/2 0, 1 0 1 0 1/2 0") }

// pendulum returns the one of a text with its eight numbers.
func pendulum(s string) balance.Pendulum {
	l := nums(s)
	return balance.Pendulum{Grow: l[0], Heel: l[1], Toe: l[2], Near: l[3], Far: l[4], Short: l[5], Long: l[6], Push: l[7]}
}

// third returns the pendulum of the chapter's example 3, with a Push.
func third(push string) balance.Pendulum {
	return pendulum("1/3 -1/10 1/10 -1/2 1/2 0 1/2 " + push)
}

// state returns that of a text like "0 3/10".
func state(s string) balance.State {
	l := nums(s)
	return balance.State{X: l[0], V: l[1]}
}

// move returns that of a text with a push, a pressure and a length.
func move(s string) balance.Move {
	l := nums(s)
	return balance.Move{Push: l[0], Pressure: l[1], Step: l[2]}
}

// numbers returns the coordinates of a state.
func numbers(s balance.State) []exact.Q { return []exact.Q{s.X, s.V} }

// pushed returns a state after a push.
func pushed(s balance.State, push exact.Q) balance.State {
	return balance.State{X: s.X, V: s.V.Add(push)}
}

// poly returns the polyhedron of the dimension 2 with the rows of a text: three
// numbers each, A and B.
func poly(s string) hull.Poly {
	p := hull.Poly{N: 2}
	for _, l := range lists(s) {
		p.Rows = append(p.Rows, hull.Row{A: l[:2], B: l[2]})
	}
	return p
}

func numsText(l []exact.Q) string {
	var words []string
	for _, q := range l {
		words = append(words, q.Text())
	}
	return "[" + strings.Join(words, " ") + "]"
}

func pointText(p exact.Point) string { return "(" + p.X.Text() + " " + p.Z.Text() + ")" }

func contactText(c balance.Contact) string {
	return pointText(c.At) + pointText(c.Ground) + c.Friction.Text() + " " + c.Most.Text()
}

func contactsText(l []balance.Contact) string {
	var words []string
	for _, c := range l {
		words = append(words, contactText(c))
	}
	return strings.Join(words, ";")
}

func polyText(p hull.Poly) string {
	text := strconv.Itoa(p.N) + ";"
	for _, r := range p.Rows {
		text += numsText(r.A) + r.B.Text() + ";"
	}
	return text
}

func stateText(s balance.State) string { return numsText(numbers(s)) }

func moveText(m balance.Move) string {
	return numsText([]exact.Q{m.Push, m.Pressure, m.Step})
}

func movesText(l []balance.Move) string {
	text := ""
	for _, m := range l {
		text += moveText(m)
	}
	return text
}

func pendulumText(p balance.Pendulum) string {
	return numsText([]exact.Q{p.Grow, p.Heel, p.Toe, p.Near, p.Far, p.Short, p.Long, p.Push})
}

func supportText(low, high exact.Q, below, above bool) string {
	return low.Text() + " " + high.Text() + " " + strconv.FormatBool(below) + " " + strconv.FormatBool(above)
}

// pairText is a text of two numbers.
func pairText(a, b exact.Q) string { return a.Text() + " " + b.Text() }

// expect compares what a call gave with what it should give.
func expect(t *testing.T, call, got, want string) {
	t.Helper()
	if got != want {
		t.Errorf("%s: got %s, want %s", call, got, want)
	}
}

func expectError(t *testing.T, call string, got, want api.Errno) {
	t.Helper()
	if got != want {
		t.Errorf("%s: got the error %d, want %d", call, got, want)
	}
}

// expectOK compares what a call gave that should have no error.
func expectOK(t *testing.T, call, got string, e api.Errno, want string) {
	t.Helper()
	expectError(t, call, e, api.OK)
	expect(t, call, got, want)
}

// expectBool compares what a call reports.
func expectBool(t *testing.T, call string, got, want bool) {
	t.Helper()
	expect(t, call, strconv.FormatBool(got), strconv.FormatBool(want))
}

// over returns a / b; b is not 0.
func over(a, b exact.Q) exact.Q {
	q, _ := a.Div(b)
	return q
}

// isVoidBy reports whether weights show that a polyhedron has no point.
func isVoidBy(p hull.Poly, weights []exact.Q) bool {
	return hull.Prove(make([]exact.Q, p.N), p, hull.Answer{Kind: hull.Void, Weights: weights})
}

// isVoid reports whether a polyhedron has no point.
func isVoid(p hull.Poly) bool {
	_, e := hull.Least(p)
	return e == api.ErrVoid
}

// with returns a copy of a list in which one element is another one.
func with[T any](l []T, i int, x T) []T {
	l = slices.Clone(l)
	l[i] = x
	return l
}

// table returns a machine of one body, of mass 10, with its centre of mass at
// the origin, and a foot with one or two points for each list.
func table(feet ...[]exact.Point) machine.Machine {
	m := machine.Machine{Name: "table", Bodies: []machine.Body{{Name: "top", Parent: -1, Mass: num("10"), Inertia: num("1")}}}
	for _, l := range feet {
		m.Feet = append(m.Feet, machine.Foot{Points: l, Friction: num("1/2")})
	}
	return m
}

// level is a ground of the height 0.
func level() pose.Ground { return pose.Ground(points("-10 0, 10 0")) }
