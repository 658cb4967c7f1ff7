package sense_test

import (
	"slices"
	"strconv"
	"strings"
	"testing"

	"amble/api"
	"amble/exact"
	"amble/hull"
	"amble/sense"
)

// The tests call package sense through what it exports. What they expect is
// written out, or found in another way: sets of numbers by asking each end and
// what lies between two of them, sets of states by all points where rows meet
// and by grids, predictions by sums of corners, worlds by the sentences of the
// chapter, depths by a second writing of its formula, loads by trying more.

// num returns the number of a text.
func num(s string) exact.Q {
	q, e := exact.Parse(s)
	if e != api.OK {
		panic("not a number: " + s)
	}
	return q
}

// nums returns the numbers of texts with blanks between them.
func nums(s string) []exact.Q {
	var l []exact.Q
	for word := range strings.FieldsSeq(s) {
		l = append(l, num(word))
	}
	return l
}

// parts returns the parts of a text between commas; none of an empty one.
func parts(s string) []string {
	if s == "" {
		return nil
	}
	return strings.Split(s, ",")
}

// lists returns the lists of numbers of a text like "1 2, 3 4".
func lists(s string) [][]exact.Q {
	var l [][]exact.Q
	for _, part := range parts(s) {
		l = append(l, nums(part))
	}
	return l
}

// intervals returns those of a text like "0 4, 3 6".
func intervals(s string) []sense.Interval {
	var l []sense.Interval
	for _, ends := range lists(s) {
		l = append(l, sense.Interval{Low: ends[0], High: ends[1]})
	}
	return l
}

// poly returns the polyhedron of a dimension with the rows of a text like "1 0 4,
// -1 0 2": their A and, last, B.
func poly(n int, s string) hull.Poly {
	p := hull.Poly{N: n}
	for _, l := range lists(s) {
		p.Rows = append(p.Rows, hull.Row{A: l[:n:n], B: l[n]})
	}
	return p
}

// axis returns the list of n numbers with one that may not be 0, at the place i.
func axis(n, i int, q exact.Q) []exact.Q {
	l := make([]exact.Q, n)
	l[i] = q
	return l
}

// box returns the one of a text like "0 1, 2 3", with the least and the greatest
// number for each coordinate, or * where there is none.
func box(s string) hull.Poly {
	sides := parts(s)
	n := len(sides)
	p := hull.Poly{N: n}
	for i, side := range sides {
		ends := strings.Fields(side)
		if ends[1] != "*" {
			p.Rows = append(p.Rows, hull.Row{A: axis(n, i, num("1")), B: num(ends[1])})
		}
		if ends[0] != "*" {
			p.Rows = append(p.Rows, hull.Row{A: axis(n, i, num("-1")), B: num(ends[0]).Neg()})
		}
	}
	return p
}

// boxes returns those of texts.
func boxes(l ...string) []hull.Poly {
	var all []hull.Poly
	for _, s := range l {
		all = append(all, box(s))
	}
	return all
}

// nothing returns a void polyhedron, everything one that has all points.
func nothing(n int) hull.Poly {
	return hull.Poly{N: n, Rows: []hull.Row{{A: make([]exact.Q, n), B: num("-1")}}}
}

func everything(n int) hull.Poly { return hull.Poly{N: n} }

// point returns the polyhedron that has a single point.
func point(x ...exact.Q) hull.Poly {
	p := hull.Poly{N: len(x)}
	for i, q := range x {
		p.Rows = append(p.Rows,
			hull.Row{A: axis(len(x), i, num("1")), B: q},
			hull.Row{A: axis(len(x), i, num("-1")), B: q.Neg()})
	}
	return p
}

// round returns a polygon with so many sides, an even number, that touch the
// circle around 0 with the radius 1. Those with different shifts, from 0 to 1,
// have no direction in common.
func round(sides int, shift string) hull.Poly {
	p := hull.Poly{N: 2}
	half := int64(sides / 2)
	for i := range half {
		t := over(exact.Int(2*i).Add(num(shift)), exact.Int(half)).Sub(num("1"))
		turn := exact.Turn(t)
		p.Rows = append(p.Rows,
			hull.Row{A: []exact.Q{turn.C, turn.S}, B: num("1")},
			hull.Row{A: []exact.Q{turn.C.Neg(), turn.S.Neg()}, B: num("1")})
	}
	return p
}

// moved returns a polyhedron that is moved.
func moved(p hull.Poly, by ...exact.Q) hull.Poly {
	q := hull.Poly{N: p.N}
	for _, r := range p.Rows {
		q.Rows = append(q.Rows, hull.Row{A: slices.Clone(r.A), B: r.B.Add(dot(r.A, by))})
	}
	return q
}

// product returns the polyhedron of the points of p with points of q behind
// them.
func product(p, q hull.Poly) hull.Poly {
	both := hull.Poly{N: p.N + q.N}
	for _, r := range p.Rows {
		both.Rows = append(both.Rows, hull.Row{A: slices.Concat(r.A, make([]exact.Q, q.N)), B: r.B})
	}
	for _, r := range q.Rows {
		both.Rows = append(both.Rows, hull.Row{A: slices.Concat(make([]exact.Q, p.N), r.A), B: r.B})
	}
	return both
}

// matrix returns the one of a text with a row in each part.
func matrix(s string) exact.Mat { return exact.Mat(lists(s)) }

// model returns the one with these A, B and Noise.
func model(a, b string, noise hull.Poly) sense.Model {
	return sense.Model{A: matrix(a), B: nums(b), Noise: noise}
}

// still returns the model in which nothing moves, but for noise.
func still(noise hull.Poly) sense.Model {
	m := sense.Model{B: make([]exact.Q, noise.N), Noise: noise}
	for i := range noise.N {
		m.A = append(m.A, axis(noise.N, i, num("1")))
	}
	return m
}

// touches returns those of a text like "-1 0 no, 1 2 yes".
func touches(s string) []sense.Touch {
	var l []sense.Touch
	for _, part := range parts(s) {
		words := strings.Fields(part)
		gap := sense.Interval{Low: num(words[0]), High: num(words[1])}
		l = append(l, sense.Touch{Gap: gap, Says: words[2] == "yes"})
	}
	return l
}

// soil returns the one of a text with its Give, Sink and Yield.
func soil(s string) sense.Soil {
	l := nums(s)
	return sense.Soil{Give: l[0], Sink: l[1], Yield: l[2]}
}

// records returns those of a text like "50 1/20, 200 11/10".
func records(s string) []sense.Record {
	var l []sense.Record
	for _, r := range lists(s) {
		l = append(l, sense.Record{Load: r[0], Depth: r[1]})
	}
	return l
}

func numsText(l []exact.Q) string {
	var words []string
	for _, q := range l {
		words = append(words, q.Text())
	}
	return "[" + strings.Join(words, " ") + "]"
}

func matrixText(m exact.Mat) string {
	text := ""
	for _, r := range m {
		text += numsText(r)
	}
	return text
}

func intervalsText(l []sense.Interval) string {
	text := ""
	for _, i := range l {
		text += numsText([]exact.Q{i.Low, i.High})
	}
	return text
}

func polyText(p hull.Poly) string {
	text := strconv.Itoa(p.N) + ";"
	for _, r := range p.Rows {
		text += numsText(r.A) + r.B.Text() + ";"
	}
	return text
}

func polysText(l []hull.Poly) string {
	text := ""
	for _, p := range l {
		text += "{" + polyText(p) + "}"
	}
	return text
}

func placesText(l []int) string {
	var words []string
	for _, n := range l {
		words = append(words, strconv.Itoa(n))
	}
	return "[" + strings.Join(words, " ") + "]"
}

// maskText returns the feet of a set as a number.
func maskText(n uint32) string { return strconv.FormatUint(uint64(n), 10) }

func masksText(l []uint32) string {
	var words []string
	for _, n := range l {
		words = append(words, maskText(n))
	}
	return "[" + strings.Join(words, " ") + "]"
}

func modelText(m sense.Model) string {
	return matrixText(m.A) + numsText(m.B) + polyText(m.Noise)
}

func touchesText(l []sense.Touch) string {
	text := ""
	for _, t := range l {
		text += intervalsText([]sense.Interval{t.Gap}) + strconv.FormatBool(t.Says)
	}
	return text
}

func soilText(s sense.Soil) string { return numsText([]exact.Q{s.Give, s.Sink, s.Yield}) }

func recordsText(l []sense.Record) string {
	text := ""
	for _, r := range l {
		text += numsText([]exact.Q{r.Load, r.Depth})
	}
	return text
}

// canonText returns the text of the canonical description of p.
func canonText(p hull.Poly) string {
	c, e := hull.Canon(p)
	if e != api.OK {
		panic("no canonical description")
	}
	return polyText(c)
}

// hullText returns the text of the canonical description of what points span.
func hullText(n int, points [][]exact.Q) string {
	h, e := hull.Hull(n, points, nil)
	if e != api.OK {
		panic("no hull")
	}
	return polyText(h)
}

// expect compares what a call gave with what it should give.
func expect(t *testing.T, call, got, want string) {
	t.Helper()
	if got != want {
		t.Errorf("%s: got %s, want %s", call, got, want)
	}
}

func expectError(t *testing.T, call string, got, want api.Errno) {
	t.Helper()
	if got != want {
		t.Errorf("%s: got the error %d, want %d", call, got, want)
	}
}

// expectOK compares what a call gave that should have no error.
func expectOK(t *testing.T, call, got string, e api.Errno, want string) {
	t.Helper()
	expectError(t, call, e, api.OK)
	expect(t, call, got, want)
}

// over returns a / b; b is not 0.
func over(a, b exact.Q) exact.Q {
	q, _ := a.Div(b)
	return q
}

// dot returns the sum of the products of the numbers of two lists.
func dot(a, b []exact.Q) exact.Q {
	var sum exact.Q
	for i := range a {
		sum = sum.Add(a[i].Mul(b[i]))
	}
	return sum
}

// middle returns the number in the middle of two others.
func middle(a, b exact.Q) exact.Q { return over(a.Add(b), num("2")) }

// times returns a list of so many times the same.
func times[T any](n int, x T) []T {
	l := make([]T, n)
	for i := range l {
		l[i] = x
	}
	return l
}

// with returns a copy of a list in which one element is another one.
func with[T any](l []T, i int, x T) []T {
	l = slices.Clone(l)
	l[i] = x
	return l
}

// sorted returns numbers in order, each once.
func sorted(l []exact.Q) []exact.Q {
	l = slices.Clone(l)
	slices.SortFunc(l, exact.Q.Cmp)
	return slices.CompactFunc(l, func(a, b exact.Q) bool { return a.Cmp(b) == 0 })
}

// between returns sorted numbers with those in the middle of each two of them.
func between(l []exact.Q) []exact.Q {
	var more []exact.Q
	for i, q := range l {
		if i > 0 {
			more = append(more, middle(l[i-1], q))
		}
		more = append(more, q)
	}
	return more
}

// holders returns how many of the polyhedra contain a point.
func holders(l []hull.Poly, x []exact.Q) int {
	n := 0
	for _, p := range l {
		if hull.Has(p, x) {
			n++
		}
	}
	return n
}
