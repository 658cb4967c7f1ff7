package gait_test

import (
	"slices"
	"strconv"
	"strings"
	"testing"

	"amble/api"
	"amble/balance"
	"amble/exact"
	"amble/gait"
	"amble/hull"
)

// The tests call package gait through what it exports. What they expect is
// written out, or found in another way: words as lists of what each leg does,
// moves by looking at all pairs of states, least costs by lowering them until
// nothing changes, return maps by swings, basins by sequences of pushes.

// num returns the number of a text.
func num(s string) exact.Q {
	q, e := exact.Parse(s)
	if e != api.OK {
		panic("not a number: " + s)
	}
	return q
}

// nums returns the numbers of texts with blanks between them.
func nums(s string) []exact.Q {
	var l []exact.Q
	for word := range strings.FieldsSeq(s) {
		l = append(l, num(word))
	}
	return l
}

// ints returns the integers of a text with blanks between them.
func ints(s string) []int {
	var l []int
	for word := range strings.FieldsSeq(s) {
		n, err := strconv.Atoi(word)
		if err != nil {
			panic("not an integer: " + word)
		}
		l = append(l, n)
	}
	return l
}

// word returns that of a text like "3 1 3 2".
func word(s string) gait.Word {
	var w gait.Word
	for _, phase := range ints(s) {
		w = append(w, uint8(phase))
	}
	return w
}

// at returns the point of a text like "0 1/2".
func at(s string) exact.Point {
	l := nums(s)
	return exact.Point{X: l[0], Z: l[1]}
}

// holds returns the footholds of a text with four numbers for each: X, Z,
// Bearing and Cost; what is not given is 0.
func holds(s string) []gait.Hold {
	var m []gait.Hold
	for part := range strings.SplitSeq(s, ",") {
		l := append(nums(part), nums("0 0 0")...)
		m = append(m, gait.Hold{At: exact.Point{X: l[0], Z: l[1]}, Bearing: l[2], Cost: l[3]})
	}
	return m
}

// row returns so many footholds with the X 0, 1, 2 ..
func row(n int) []gait.Hold {
	var m []gait.Hold
	for i := range n {
		m = append(m, gait.Hold{At: exact.Point{X: exact.Int(int64(i))}})
	}
	return m
}

// walker returns the one of a text with its nine numbers: Legs, Long, Up, Down,
// Span, Weight, PerLength, PerRise, PerPhase.
func walker(s string) gait.Walker {
	l := nums(s)
	legs, _ := l[0].Int64()
	return gait.Walker{Legs: int(legs), Long: l[1], Up: l[2], Down: l[3], Span: l[4], Weight: l[5], PerLength: l[6], PerRise: l[7], PerPhase: l[8]}
}

// example returns the problem of the chapter's example 2.
func example() gait.Problem {
	return gait.Problem{
		Map: row(4), Walker: walker("2 2 0 0 1 0 1 0 1"), Word: word("3 1 3 2"),
		Start: ints("0 1"), Target: num("2"),
	}
}

// place returns the state of a text with its phase and its footholds.
func place(s string) gait.State {
	l := ints(s)
	return gait.State{Phase: l[0], Holds: l[1:]}
}

// third returns the pendulum of chapter 7, with a Push.
func third(push string) balance.Pendulum {
	return pendulum("1/3 -1/10 1/10 -1/2 1/2 0 1/2 " + push)
}

// pendulum returns the one of a text with its eight numbers.
func pendulum(s string) balance.Pendulum {
	l := nums(s)
	return balance.Pendulum{Grow: l[0], Heel: l[1], Toe: l[2], Near: l[3], Far: l[4], Short: l[5], Long: l[6], Push: l[7]}
}

// law returns the one of a text with its six numbers.
func law(s string) gait.Law {
	l := nums(s)
	return gait.Law{Pressure: l[0], KX: l[1], KV: l[2], Step: l[3], JX: l[4], JV: l[5]}
}

// state returns that of a pendulum of a text like "0 3/10".
func state(s string) balance.State {
	l := nums(s)
	return balance.State{X: l[0], V: l[1]}
}

// numbers returns the coordinates of a state.
func numbers(s balance.State) []exact.Q { return []exact.Q{s.X, s.V} }

// pushed returns a state after a push.
func pushed(s balance.State, push exact.Q) balance.State {
	return balance.State{X: s.X, V: s.V.Add(push)}
}

// poly returns the polyhedron of the dimension 2 with the rows of a text: three
// numbers each, A and B.
func poly(s string) hull.Poly {
	p := hull.Poly{N: 2}
	for part := range strings.SplitSeq(s, ",") {
		l := nums(part)
		p.Rows = append(p.Rows, hull.Row{A: l[:2], B: l[2]})
	}
	return p
}

func numsText(l []exact.Q) string {
	var words []string
	for _, q := range l {
		words = append(words, q.Text())
	}
	return "[" + strings.Join(words, " ") + "]"
}

func intsText(l []int) string {
	var words []string
	for _, n := range l {
		words = append(words, strconv.Itoa(n))
	}
	return "[" + strings.Join(words, " ") + "]"
}

func wordText(w gait.Word) string {
	var l []int
	for _, phase := range w {
		l = append(l, int(phase))
	}
	return intsText(l)
}

func placeText(s gait.State) string { return strconv.Itoa(s.Phase) + intsText(s.Holds) }

func wayText(l []gait.State) string {
	var words []string
	for _, s := range l {
		words = append(words, placeText(s))
	}
	return strings.Join(words, " ")
}

func movesText(l []gait.Move) string {
	var words []string
	for _, m := range l {
		words = append(words, placeText(m.To)+"="+m.Cost.Text())
	}
	return strings.Join(words, " ")
}

func marksText(l []gait.Mark) string {
	var words []string
	for _, m := range l {
		words = append(words, placeText(m.State)+"="+m.Value.Text())
	}
	return strings.Join(words, " ")
}

func planText(a gait.Plan) string {
	return strconv.FormatBool(a.Found) + " " + a.Cost.Text() + " by " + wayText(a.Way) + " of " + marksText(a.Marks)
}

func mapText(m []gait.Hold) string {
	text := ""
	for _, h := range m {
		text += numsText([]exact.Q{h.At.X, h.At.Z, h.Bearing, h.Cost})
	}
	return text
}

func walkerText(w gait.Walker) string {
	return strconv.Itoa(w.Legs) + numsText([]exact.Q{w.Long, w.Up, w.Down, w.Span, w.Weight, w.PerLength, w.PerRise, w.PerPhase})
}

func problemText(p gait.Problem) string {
	return mapText(p.Map) + walkerText(p.Walker) + wordText(p.Word) + intsText(p.Start) + intsText(p.Goal) + p.Target.Text()
}

func polyText(p hull.Poly) string {
	text := strconv.Itoa(p.N) + ";"
	for _, r := range p.Rows {
		text += numsText(r.A) + r.B.Text() + ";"
	}
	return text
}

func stateText(s balance.State) string { return numsText(numbers(s)) }

func statesText(l []balance.State) string {
	text := ""
	for _, s := range l {
		text += stateText(s)
	}
	return text
}

func matrixText(m exact.Mat) string {
	text := ""
	for _, r := range m {
		text += numsText(r)
	}
	return text
}

func pendulumText(p balance.Pendulum) string {
	return numsText([]exact.Q{p.Grow, p.Heel, p.Toe, p.Near, p.Far, p.Short, p.Long, p.Push})
}

func lawText(l gait.Law) string {
	return numsText([]exact.Q{l.Pressure, l.KX, l.KV, l.Step, l.JX, l.JV})
}

// expect compares what a call gave with what it should give.
func expect(t *testing.T, call, got, want string) {
	t.Helper()
	if got != want {
		t.Errorf("%s: got %s, want %s", call, got, want)
	}
}

func expectError(t *testing.T, call string, got, want api.Errno) {
	t.Helper()
	if got != want {
		t.Errorf("%s: got the error %d, want %d", call, got, want)
	}
}

// expectOK compares what a call gave that should have no error.
func expectOK(t *testing.T, call, got string, e api.Errno, want string) {
	t.Helper()
	expectError(t, call, e, api.OK)
	expect(t, call, got, want)
}

// expectBool compares what a call reports.
func expectBool(t *testing.T, call string, got, want bool) {
	t.Helper()
	expect(t, call, strconv.FormatBool(got), strconv.FormatBool(want))
}

// over returns a / b; b is not 0.
func over(a, b exact.Q) exact.Q {
	q, _ := a.Div(b)
	return q
}

// isVoid reports whether a polyhedron has no point.
func isVoid(p hull.Poly) bool {
	_, e := hull.Least(p)
	return e == api.ErrVoid
}

// with returns a copy of a list in which one element is another one.
func with[T any](l []T, i int, x T) []T {
	l = slices.Clone(l)
	l[i] = x
	return l
}

// without returns a copy of a list in which one element is missing.
func without[T any](l []T, i int) []T { return slices.Concat(l[:i], l[i+1:]) }
