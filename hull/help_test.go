package hull_test

import (
	"math/bits"
	"slices"
	"strings"
	"testing"

	"amble/api"
	"amble/exact"
	"amble/hull"
)

// The tests call package hull through what it exports. What they expect is
// written out, or found by slow and simple ways: all choices of rows are tried
// for corners, all pairs of generators for sums.

// num returns the number of a text.
func num(s string) exact.Q {
	q, e := exact.Parse(s)
	if e != api.OK {
		panic("not a number: " + s)
	}
	return q
}

// nums returns the numbers of texts with blanks between them.
func nums(s string) []exact.Q {
	var l []exact.Q
	for _, word := range strings.Fields(s) {
		l = append(l, num(word))
	}
	return l
}

// lists returns the lists of several texts.
func lists(texts ...string) [][]exact.Q {
	var l [][]exact.Q
	for _, text := range texts {
		l = append(l, nums(text))
	}
	return l
}

// fields returns the lists of a text with strokes between them.
func fields(s string) [][]exact.Q { return lists(strings.Split(s, "|")...) }

// row returns the row of a text like "1 0 <= 3/2".
func row(s string) hull.Row {
	left, right, ok := strings.Cut(s, "<=")
	if !ok {
		panic("not a row: " + s)
	}
	return hull.Row{A: nums(left), B: nums(right)[0]}
}

// poly returns the polyhedron of the texts of its rows.
func poly(n int, rows ...string) hull.Poly {
	p := hull.Poly{N: n}
	for _, text := range rows {
		p.Rows = append(p.Rows, row(text))
	}
	return p
}

// ints returns a list of small integers.
func ints(l ...int) []exact.Q {
	var list []exact.Q
	for _, n := range l {
		list = append(list, exact.Int(int64(n)))
	}
	return list
}

// box returns the polyhedron of the points whose numbers are from low to high.
func box(n, low, high int) hull.Poly {
	p := hull.Poly{N: n}
	for i := range n {
		up, down := make([]exact.Q, n), make([]exact.Q, n)
		up[i], down[i] = exact.Int(1), exact.Int(-1)
		p.Rows = append(p.Rows, hull.Row{A: up, B: exact.Int(int64(high))}, hull.Row{A: down, B: exact.Int(int64(-low))})
	}
	return p
}

// square is the polyhedron Q of the chapter's examples.
func square() hull.Poly { return poly(2, "1 0 <= 1", "-1 0 <= 0", "0 1 <= 1", "0 -1 <= 0") }

func listText(l []exact.Q) string {
	var words []string
	for _, q := range l {
		words = append(words, q.Text())
	}
	return strings.Join(words, " ")
}

func listsText(l [][]exact.Q) string {
	text := ""
	for _, x := range l {
		text += "[" + listText(x) + "]"
	}
	return text
}

func rowText(r hull.Row) string { return listText(r.A) + " <= " + r.B.Text() }

// polyText returns the rows of a polyhedron, each in brackets.
func polyText(p hull.Poly) string {
	text := ""
	for _, r := range p.Rows {
		text += "[" + rowText(r) + "]"
	}
	return text
}

func ringText(l []exact.Point) string {
	text := ""
	for _, p := range l {
		text += "[" + p.X.Text() + " " + p.Z.Text() + "]"
	}
	return text
}

// expect compares what a call gave with what it should give.
func expect(t *testing.T, call, got, want string) {
	t.Helper()
	if got != want {
		t.Errorf("%s: got %s, want %s", call, got, want)
	}
}

func expectError(t *testing.T, call string, got, want api.Errno) {
	t.Helper()
	if got != want {
		t.Errorf("%s: got the error %d, want %d", call, got, want)
	}
}

// expectPoly compares a polyhedron and its error with rows.
func expectPoly(t *testing.T, call string, p hull.Poly, e api.Errno, n int, rows ...string) {
	t.Helper()
	want := poly(n, rows...)
	expectError(t, call, e, api.OK)
	expect(t, call, polyText(p), polyText(want))
	if p.N != n {
		t.Errorf("%s: got the dimension %d, want %d", call, p.N, n)
	}
}

// source gives numbers that look random; the same ones in each run.
type source uint64

func (s *source) next() uint64 {
	*s += 0x9e3779b97f4a7c15
	x := uint64(*s)
	x = (x ^ x>>30) * 0xbf58476d1ce4e5b9
	x = (x ^ x>>27) * 0x94d049bb133111eb
	return x ^ x>>31
}

func (s *source) below(n int) int { return int(s.next() % uint64(n)) }

// small returns a number from -most to most, often an integer.
func (s *source) small(most int) exact.Q {
	under := 1
	if s.below(4) == 0 {
		under = s.below(3) + 1
	}
	q, _ := exact.Of(int64(s.below(2*most+1)-most), int64(under))
	return q
}

func (s *source) list(n, most int) []exact.Q {
	l := make([]exact.Q, n)
	for i := range l {
		if s.below(4) > 0 {
			l[i] = s.small(most)
		}
	}
	return l
}

func (s *source) lists(count, n, most int) [][]exact.Q {
	l := make([][]exact.Q, count)
	for i := range l {
		l[i] = s.list(n, most)
	}
	return l
}

// poly returns a polyhedron of any kind: void, bounded or not, with lines and
// with equations; many of its rows meet in one point.
func (s *source) poly(n, rows int) hull.Poly {
	p := hull.Poly{N: n}
	if s.below(2) == 0 {
		p = box(n, -s.below(3), s.below(3))
	}
	middle := s.list(n, 2)
	for range s.below(rows + 1) {
		r := hull.Row{A: s.list(n, 2), B: s.small(4)}
		if s.below(2) == 0 {
			r.B = dot(r.A, middle)
		}
		p.Rows = append(p.Rows, r)
		if s.below(6) == 0 {
			p.Rows = append(p.Rows, hull.Row{A: scaled(r.A, exact.Int(-2)), B: r.B.Mul(exact.Int(-2))})
		}
	}
	return p
}

func dot(a, b []exact.Q) exact.Q {
	var sum exact.Q
	for i := range a {
		sum = sum.Add(a[i].Mul(b[i]))
	}
	return sum
}

func scaled(l []exact.Q, k exact.Q) []exact.Q {
	m := make([]exact.Q, len(l))
	for i := range l {
		m[i] = l[i].Mul(k)
	}
	return m
}

func plus(a, b []exact.Q) []exact.Q {
	m := make([]exact.Q, len(a))
	for i := range a {
		m[i] = a[i].Add(b[i])
	}
	return m
}

func compare(a, b []exact.Q) int {
	for i := range a {
		if order := a[i].Cmp(b[i]); order != 0 {
			return order
		}
	}
	return 0
}

// sorted returns the lists in order, each once.
func sorted(l [][]exact.Q) [][]exact.Q {
	slices.SortFunc(l, compare)
	return slices.CompactFunc(l, func(a, b []exact.Q) bool { return compare(a, b) == 0 })
}

// primitive returns the primitive multiple of a list, by trying out.
func primitive(l []exact.Q) []exact.Q {
	for _, a := range l {
		l = scaled(l, a.Den())
	}
	var g int64
	for _, a := range l {
		n, _ := a.Abs().Int64()
		for n != 0 {
			g, n = n, g%n
		}
	}
	if g > 1 {
		inverse, _ := exact.Of(1, g)
		l = scaled(l, inverse)
	}
	return l
}

// choices calls use with each choice of rows, so many of all.
func choices(rows []hull.Row, count int, use func([]hull.Row)) {
	for set := range 1 << len(rows) {
		if bits.OnesCount(uint(set)) != count {
			continue
		}
		var chosen []hull.Row
		for i, r := range rows {
			if set>>i&1 == 1 {
				chosen = append(chosen, r)
			}
		}
		use(chosen)
	}
}

// leftSides returns the matrix of the left sides of rows.
func leftSides(rows []hull.Row) exact.Mat {
	var m exact.Mat
	for _, r := range rows {
		m = append(m, r.A)
	}
	return m
}

// allCorners returns the corners of a polyhedron, by solving each choice of
// rows that might meet in one.
func allCorners(p hull.Poly) [][]exact.Q {
	var found [][]exact.Q
	choices(p.Rows, p.N, func(chosen []hull.Row) {
		var right []exact.Q
		for _, r := range chosen {
			right = append(right, r.B)
		}
		x, kernel, e := exact.Solve(leftSides(chosen), right)
		if e == api.OK && len(kernel) == 0 && len(x) == p.N && hull.Has(p, x) {
			found = append(found, x)
		}
	})
	return sorted(found)
}

// directions returns the polyhedron of the directions of p.
func directions(p hull.Poly) hull.Poly {
	d := hull.Poly{N: p.N}
	for _, r := range p.Rows {
		d.Rows = append(d.Rows, hull.Row{A: r.A})
	}
	return d
}

// allRays returns the extreme rays of a pointed polyhedron that is not void:
// the directions that are all that some choice of rows leaves.
func allRays(p hull.Poly) [][]exact.Q {
	var found [][]exact.Q
	choices(p.Rows, p.N-1, func(chosen []hull.Row) {
		m := append(leftSides(chosen), make([]exact.Q, p.N))
		_, kernel, _ := exact.Solve(m, make([]exact.Q, len(m)))
		if len(kernel) != 1 {
			return
		}
		for _, sign := range []int64{1, -1} {
			if d := scaled(kernel[0], exact.Int(sign)); hull.Has(directions(p), d) {
				found = append(found, primitive(d))
			}
		}
	})
	return sorted(found)
}

// isPointed reports whether the left sides of p leave no line.
func isPointed(p hull.Poly) bool {
	_, pivots, _ := exact.Rref(leftSides(p.Rows))
	return len(pivots) == p.N
}

// isVoid reports whether p has no point; both answers are proved.
func isVoid(t *testing.T, p hull.Poly) bool {
	t.Helper()
	zero := make([]exact.Q, p.N)
	a, e := hull.Maximize(zero, p)
	if e != api.OK || a.Kind == hull.Unbounded || !hull.Prove(zero, p, a) {
		t.Fatal("no proof whether it is void:", polyText(p))
	}
	return a.Kind == hull.Void
}
