package control_test

import (
	"math/big"
	"slices"
	"strconv"
	"strings"
	"testing"

	"amble/api"
	"amble/control"
	"amble/exact"
	"amble/hull"
	"amble/machine"
)

// The tests call package control through what it exports. What they expect is
// written out, or found in another way: least errors by looking at all corners,
// programs with math/big, torques and accelerations by trying what is next to
// them, cycles by the sentences of the chapter.

// num returns the number of a text.
func num(s string) exact.Q {
	q, e := exact.Parse(s)
	if e != api.OK {
		panic("not a number: " + s)
	}
	return q
}

// nums returns the numbers of texts with blanks between them.
func nums(s string) []exact.Q {
	var l []exact.Q
	for word := range strings.FieldsSeq(s) {
		l = append(l, num(word))
	}
	return l
}

// integer returns the integer of a text.
func integer(s string) int64 {
	n, err := strconv.ParseInt(s, 10, 64)
	if err != nil {
		panic("not an integer: " + s)
	}
	return n
}

// ints returns the integers of a text with blanks between them.
func ints(s string) []int64 {
	var l []int64
	for word := range strings.FieldsSeq(s) {
		l = append(l, integer(word))
	}
	return l
}

// places returns the same as small integers.
func places(s string) []int {
	var l []int
	for _, n := range ints(s) {
		l = append(l, int(n))
	}
	return l
}

// parts returns the parts of a text between commas; none of an empty one.
func parts(s string) []string {
	if s == "" {
		return nil
	}
	return strings.Split(s, ",")
}

// rows returns the rows of a text like "1 0 4, -1 0 2": their A and, last, B.
func rows(s string) []hull.Row {
	var all []hull.Row
	for _, part := range parts(s) {
		l := nums(part)
		n := len(l) - 1
		all = append(all, hull.Row{A: l[:n:n], B: l[n]})
	}
	return all
}

// task returns the one of such a text.
func task(s string) control.Task {
	var t control.Task
	for _, r := range rows(s) {
		t.A, t.B = append(t.A, r.A), append(t.B, r.B)
	}
	return t
}

// plan returns the one with these hard limits, this crouch, which tells how many
// numbers it has, and these tasks.
func plan(hard, crouch string, tasks ...string) control.Plan {
	p := control.Plan{Crouch: nums(crouch)}
	p.Hard = hull.Poly{N: len(p.Crouch), Rows: rows(hard)}
	for _, s := range tasks {
		p.Tasks = append(p.Tasks, task(s))
	}
	return p
}

// example returns the plan of the chapter's example 1.
func example() control.Plan { return plan("1 4, -1 0", "9", "1 6", "1 1") }

// uses returns for the name of each kind, in the order of their numbers, what
// its operations use: i an input, a and b registers, k the number K, s a Shift.
func uses() [][2]string {
	return [][2]string{
		{"input", "i"}, {"const", "k"}, {"add", "ab"}, {"sub", "ab"}, {"mul", "abs"},
		{"scale", "aks"}, {"left", "as"}, {"min", "ab"}, {"max", "ab"},
	}
}

// useOf returns what the operations of a kind use; false: there is no such kind.
func useOf(kind uint8) (string, bool) {
	all := uses()
	if kind == 0 || int(kind) > len(all) {
		return "", false
	}
	return all[kind-1][1], true
}

// op returns the operation of a text like "scale 0 3 1": the name of its kind,
// and what it uses.
func op(s string) control.Op {
	words := strings.Fields(s)
	all := uses()
	i := slices.IndexFunc(all, func(u [2]string) bool { return u[0] == words[0] })
	if i < 0 || len(words) != 1+len(all[i][1]) {
		panic("not an operation: " + s)
	}
	o := control.Op{Kind: uint8(i + 1)}
	for k, use := range all[i][1] {
		n := integer(words[k+1])
		switch use {
		case 'i', 'a':
			o.A = int(n)
		case 'b':
			o.B = int(n)
		case 'k':
			o.K = n
		case 's':
			o.Shift = uint8(n)
		}
	}
	return o
}

// ops returns the operations of a text with commas between them.
func ops(s string) []control.Op {
	var l []control.Op
	for _, part := range parts(s) {
		l = append(l, op(part))
	}
	return l
}

// program returns the one of a width, a number of inputs, operations, and
// outputs.
func program(width, inputs int, operations, outputs string) control.Program {
	return control.Program{Width: width, Inputs: inputs, Ops: ops(operations), Outputs: places(outputs)}
}

// small returns the program of the chapter's example 2.
func small() control.Program { return program(8, 1, "input 0, scale 0 3 1, add 0 1", "2") }

// ranges returns those of a text like "-10 10, 0 5".
func ranges(s string) []control.Range {
	var l []control.Range
	for _, part := range parts(s) {
		ends := ints(part)
		l = append(l, control.Range{Low: ends[0], High: ends[1]})
	}
	return l
}

// law returns the one with the rows of a text like "5/2 -1 -20 20": the factors
// of K, then C, Low and High.
func law(s string) control.Law {
	var l control.Law
	for _, part := range parts(s) {
		row := nums(part)
		n := len(row) - 3
		l.K = append(l.K, row[:n:n])
		l.C, l.Low, l.High = append(l.C, row[n]), append(l.Low, row[n+1]), append(l.High, row[n+2])
	}
	return l
}

// motor returns the one of a text with its Torque, Heating, Cooling and Most.
func motor(s string) machine.Motor {
	l := nums(s)
	return machine.Motor{Torque: l[0], Heating: l[1], Cooling: l[2], Most: l[3]}
}

// rein returns the one of a text with its Low, High, Most and Step.
func rein(s string) control.Rein {
	l := nums(s)
	return control.Rein{Low: l[0], High: l[1], Most: l[2], Step: l[3]}
}

func numsText(l []exact.Q) string {
	var words []string
	for _, q := range l {
		words = append(words, q.Text())
	}
	return "[" + strings.Join(words, " ") + "]"
}

func intsText(l []int64) string {
	var words []string
	for _, n := range l {
		words = append(words, strconv.FormatInt(n, 10))
	}
	return "[" + strings.Join(words, " ") + "]"
}

func matrixText(m exact.Mat) string {
	text := ""
	for _, r := range m {
		text += numsText(r)
	}
	return text
}

func polyText(p hull.Poly) string {
	text := strconv.Itoa(p.N) + ";"
	for _, r := range p.Rows {
		text += numsText(r.A) + r.B.Text() + ";"
	}
	return text
}

func planText(p control.Plan) string {
	text := polyText(p.Hard)
	for _, t := range p.Tasks {
		text += " " + matrixText(t.A) + "=" + numsText(t.B)
	}
	return text + " or " + numsText(p.Crouch)
}

func answerText(a hull.Answer) string {
	return strconv.Itoa(int(a.Kind)) + " " + a.Value.Text() + numsText(a.Point) + numsText(a.Ray) + numsText(a.Weights)
}

// resultText returns what is specified of a choice.
func resultText(c control.Choice) string {
	return strconv.FormatBool(c.Crouch) + " " + numsText(c.X) + numsText(c.Errors) + strconv.Itoa(len(c.Proofs))
}

func choiceText(c control.Choice) string {
	text := resultText(c)
	for _, a := range c.Proofs {
		text += " " + answerText(a)
	}
	return text
}

func opText(o control.Op) string {
	return intsText([]int64{int64(o.Kind), int64(o.A), int64(o.B), o.K, int64(o.Shift)})
}

func opsText(l []control.Op) string {
	text := ""
	for _, o := range l {
		text += opText(o)
	}
	return text
}

func placesText(l []int) string {
	var wide []int64
	for _, n := range l {
		wide = append(wide, int64(n))
	}
	return intsText(wide)
}

func programText(p control.Program) string {
	return strconv.Itoa(p.Width) + " " + strconv.Itoa(p.Inputs) + opsText(p.Ops) + placesText(p.Outputs)
}

func rangesText(l []control.Range) string {
	text := ""
	for _, r := range l {
		text += intsText([]int64{r.Low, r.High})
	}
	return text
}

func lawText(l control.Law) string {
	return matrixText(l.K) + numsText(l.C) + numsText(l.Low) + numsText(l.High)
}

func motorText(m machine.Motor) string {
	return strconv.Itoa(m.Body) + numsText([]exact.Q{m.Torque, m.Heating, m.Cooling, m.Most})
}

func reinText(r control.Rein) string { return numsText([]exact.Q{r.Low, r.High, r.Most, r.Step}) }

func cyclesText(l []control.Cycle) string {
	text := ""
	for _, c := range l {
		text += numsText([]exact.Q{c.Torque, c.Heat})
	}
	return text
}

func motionsText(l []control.Motion) string {
	text := ""
	for _, m := range l {
		text += numsText([]exact.Q{m.Accel, m.Speed, m.Place})
	}
	return text
}

// expect compares what a call gave with what it should give.
func expect(t *testing.T, call, got, want string) {
	t.Helper()
	if got != want {
		t.Errorf("%s: got %s, want %s", call, got, want)
	}
}

func expectError(t *testing.T, call string, got, want api.Errno) {
	t.Helper()
	if got != want {
		t.Errorf("%s: got the error %d, want %d", call, got, want)
	}
}

// expectOK compares what a call gave that should have no error.
func expectOK(t *testing.T, call, got string, e api.Errno, want string) {
	t.Helper()
	expectError(t, call, e, api.OK)
	expect(t, call, got, want)
}

// expectBool compares what a call reports.
func expectBool(t *testing.T, call string, got, want bool) {
	t.Helper()
	expect(t, call, strconv.FormatBool(got), strconv.FormatBool(want))
}

// over returns a / b; b is not 0.
func over(a, b exact.Q) exact.Q {
	q, _ := a.Div(b)
	return q
}

// power returns 2^k; 1/2^-k if k is below 0.
func power(k int) exact.Q {
	one, two := num("1"), num("2")
	for range max(k, 0) {
		one = one.Mul(two)
	}
	for range max(-k, 0) {
		one = over(one, two)
	}
	return one
}

// inside returns the number between two others that is nearest to one.
func inside(low, a, high exact.Q) exact.Q { return exact.Max(low, exact.Min(a, high)) }

// isIn reports whether a number is between two others, or one of them.
func isIn(low, a, high exact.Q) bool { return low.Cmp(a) <= 0 && a.Cmp(high) <= 0 }

// rat returns a number as math/big has it.
func rat(q exact.Q) *big.Rat {
	r, _ := new(big.Rat).SetString(q.Text())
	return r
}

// ratText returns the text of a number of math/big.
func ratText(r *big.Rat) string { return r.RatString() }

// with returns a copy of a list in which one element is another one.
func with[T any](l []T, i int, x T) []T {
	l = slices.Clone(l)
	l[i] = x
	return l
}

// without returns a copy of a list in which one element is missing.
func without[T any](l []T, i int) []T { return slices.Concat(l[:i], l[i+1:]) }

// times returns a list of so many times the same.
func times[T any](n int, x T) []T {
	l := make([]T, n)
	for i := range l {
		l[i] = x
	}
	return l
}
