package hull_test

import (
	"maps"
	"math"
	"slices"
	"strconv"
	"strings"
	"sync"
	"testing"

	"amble/api"
	"amble/exact"
	"amble/hull"
)

// P1, P2 and the rules of the document that concern all calls of the layer.

// arguments are those of all calls; each call takes some of them.
type arguments struct {
	p, q         hull.Poly
	c, x, v      []exact.Q
	m            exact.Mat
	keep         []int
	n            int
	points, rays [][]exact.Q
	answer       hull.Answer
	inclusion    hull.Inclusion
}

func (a arguments) text() string {
	text := polyText(a.p) + polyText(a.q) + listText(a.c) + listText(a.x) + listText(a.v) + listsText(a.m) + listsText(a.points) + listsText(a.rays)
	for _, i := range a.keep {
		text += " " + strconv.Itoa(i)
	}
	return text + answerText(a.answer) + inclusionText(a.inclusion)
}

func answerText(a hull.Answer) string {
	return strconv.Itoa(int(a.Kind)) + " " + a.Value.Text() + "|" + listText(a.Point) + "|" + listText(a.Ray) + "|" + listText(a.Weights)
}

func inclusionText(i hull.Inclusion) string {
	return strconv.FormatBool(i.Holds) + listsText(i.Weights) + listText(i.Point)
}

// result is what a call gave: its lists, and a text of all of it.
type result struct {
	lists [][]exact.Q
	text  string
}

func ofPoly(p hull.Poly, e api.Errno) result {
	var l [][]exact.Q
	for _, r := range p.Rows {
		l = append(l, r.A)
	}
	return result{l, strconv.Itoa(p.N) + polyText(p) + e.Error()}
}

func ofLists(l [][]exact.Q, more ...string) result {
	return result{l, listsText(l) + strings.Join(more, " ")}
}

// calls returns all calls of the layer with these arguments.
func calls(a arguments) map[string]func() result {
	return map[string]func() result{
		"Check": func() result { return ofLists(nil, hull.Check(a.p).Error()) },
		"Has":   func() result { return ofLists(nil, strconv.FormatBool(hull.Has(a.p, a.x))) },
		"Maximize": func() result {
			r, e := hull.Maximize(a.c, a.p)
			return ofLists([][]exact.Q{r.Point, r.Ray, r.Weights}, answerText(r), e.Error())
		},
		"Prove": func() result { return ofLists(nil, strconv.FormatBool(hull.Prove(a.c, a.p, a.answer))) },
		"Least": func() result { x, e := hull.Least(a.p); return ofLists([][]exact.Q{x}, e.Error()) },
		"Bounds": func() result {
			low, high, below, above, e := hull.Bounds(a.c, a.p)
			return ofLists(nil, low.Text(), high.Text(), strconv.FormatBool(below), strconv.FormatBool(above), e.Error())
		},
		"Dim":   func() result { d, e := hull.Dim(a.p); return ofLists(nil, strconv.Itoa(d), e.Error()) },
		"Canon": func() result { return ofPoly(hull.Canon(a.p)) },
		"Same": func() result {
			same, e := hull.Same(a.p, a.q)
			return ofLists(nil, strconv.FormatBool(same), e.Error())
		},
		"Within": func() result {
			i, e := hull.Within(a.p, a.q)
			return ofLists(append(i.Weights[:len(i.Weights):len(i.Weights)], i.Point), inclusionText(i), e.Error())
		},
		"ProveWithin": func() result {
			return ofLists(nil, strconv.FormatBool(hull.ProveWithin(a.p, a.q, a.inclusion)))
		},
		"Meet": func() result { return ofPoly(hull.Meet(a.p, a.q, a.p)) },
		"Separate": func() result {
			r, e := hull.Separate(a.p, a.q)
			return ofLists([][]exact.Q{r.A}, rowText(r), e.Error())
		},
		"Corners": func() result {
			points, rays, e := hull.Corners(a.p)
			return ofLists(append(points[:len(points):len(points)], rays...), strconv.Itoa(len(points)), e.Error())
		},
		"Hull":     func() result { return ofPoly(hull.Hull(a.n, a.points, a.rays)) },
		"Project":  func() result { return ofPoly(hull.Project(a.p, a.keep)) },
		"Image":    func() result { return ofPoly(hull.Image(a.p, a.m, a.v)) },
		"Preimage": func() result { return ofPoly(hull.Preimage(a.p, a.m, a.v)) },
		"Sum":      func() result { return ofPoly(hull.Sum(a.p, a.q)) },
		"Ring": func() result {
			ring, e := hull.Ring(a.p)
			return ofLists(nil, ringText(ring), e.Error())
		},
		"Area": func() result { area, e := hull.Area(a.p); return ofLists(nil, area.Text(), e.Error()) },
	}
}

// ordinary returns arguments with which most calls succeed.
func ordinary(s *source) arguments {
	n := s.below(4)
	a := arguments{p: s.poly(n, 5), q: s.poly(n, 3), c: s.list(n, 3), x: s.list(n, 2), v: s.list(n, 2), m: s.lists(n, n, 2), keep: s.some(n), n: n, points: s.lists(s.below(6), n, 3), rays: s.lists(s.below(3), n, 3)}
	a.answer, _ = hull.Maximize(a.c, a.p)
	a.inclusion, _ = hull.Within(a.p, a.q)
	return a
}

// R4 and P2: a result shares no memory with an argument, with another result,
// or with another part of its own; the same call gives the same.
func TestMemory(t *testing.T) {
	s := source(20)
	for range 300 {
		a := ordinary(&s)
		before := a.text()
		for name, call := range calls(a) {
			first := call()
			second := call()
			expect(t, name+" again", second.text, first.text)
			for i := range first.lists {
				kept := listsText(first.lists[i+1:])
				_ = append(first.lists[i], exact.Int(777))
				for j := range first.lists[i] {
					first.lists[i][j] = exact.Int(999)
				}
				expect(t, name+": the other lists of the result", listsText(first.lists[i+1:]), kept)
			}
			expect(t, name+": the arguments", a.text(), before)
			expect(t, name+": another result", listsText(second.lists), listsText(call().lists))
		}
	}
}

// Arguments whose lists have room behind them, which belongs to others.
func TestRoomBehindArguments(t *testing.T) {
	s := source(21)
	for range 200 {
		a := ordinary(&s)
		var behind [][]exact.Q
		roomy := func(l []exact.Q) []exact.Q {
			big := append(append(make([]exact.Q, 0, len(l)+3), l...), ints(71, 72, 73)...)
			behind = append(behind, big[len(l):])
			return big[:len(l)]
		}
		all := func(l [][]exact.Q) {
			for i := range l {
				l[i] = roomy(l[i])
			}
		}
		for _, p := range []*hull.Poly{&a.p, &a.q} {
			rows := append(append(make([]hull.Row, 0, len(p.Rows)+1), p.Rows...), hull.Row{A: ints(5), B: exact.Int(5)})
			for i := range p.Rows {
				rows[i].A = roomy(rows[i].A)
			}
			behind = append(behind, rows[len(p.Rows)].A)
			p.Rows = rows[:len(p.Rows)]
		}
		a.c, a.x, a.v = roomy(a.c), roomy(a.x), roomy(a.v)
		all(a.m)
		all(a.points)
		all(a.rays)
		before := listsText(behind)
		for name, call := range calls(a) {
			call()
			expect(t, name+": what is behind its arguments", listsText(behind), before)
			for _, p := range []hull.Poly{a.p, a.q} {
				expect(t, name+": the row behind its rows", rowText(p.Rows[:len(p.Rows)+1][len(p.Rows)]), "5 <= 5")
			}
		}
	}
}

// Calls at the same time, with the same arguments.
func TestAtOnce(t *testing.T) {
	s := source(22)
	for range 20 {
		a := ordinary(&s)
		want := map[string]string{}
		for name, call := range calls(a) {
			want[name] = call().text
		}
		var all sync.WaitGroup
		for range 4 {
			all.Go(func() {
				for name, call := range calls(a) {
					expect(t, name+" at once", call().text, want[name])
				}
			})
		}
		all.Wait()
	}
}

// strangePolys returns polyhedra, many of them invalid.
func strangePolys() []hull.Poly {
	polys := append(invalid(), square(), poly(1, "1 <= 1"), box(7, 0, 1))
	all := valid()
	for _, name := range slices.Sorted(maps.Keys(all)) {
		polys = append(polys, all[name])
	}
	return polys
}

// strange returns any arguments, most of them invalid ones.
func strange(s *source, polys []hull.Poly) arguments {
	pick := func() hull.Poly { return polys[s.below(len(polys))] }
	size := func() int { return []int{0, 1, 2, 3, 12, 13}[s.below(6)] }
	ragged := func() [][]exact.Q {
		l := s.lists(s.below(4), size(), 5)
		if len(l) > 0 && s.below(3) == 0 {
			l[s.below(len(l))] = s.list(size(), 5)
		}
		return l
	}
	numbers := []int{math.MinInt, -1, 0, 1, 2, 12, 13, math.MaxInt}
	var keep []int
	for range s.below(4) {
		keep = append(keep, numbers[s.below(len(numbers))])
	}
	return arguments{
		p: pick(), q: pick(), c: s.list(size(), 3), x: s.list(size(), 3), v: s.list(size(), 3), m: ragged(), keep: keep,
		n: numbers[s.below(len(numbers))], points: ragged(), rays: ragged(),
		answer:    hull.Answer{Kind: uint8(s.below(6)), Value: s.small(3), Point: s.list(size(), 3), Ray: s.list(size(), 3), Weights: s.list(size(), 3)},
		inclusion: hull.Inclusion{Holds: s.below(2) == 0, Weights: ragged(), Point: s.list(size(), 3)},
	}
}

// P1: no call panics; with an error there is nothing else.
func TestAnyArguments(t *testing.T) {
	s := source(23)
	empty := map[string]string{"Maximize": "[][][]0 0||| ", "Least": "[]", "Bounds": "0 0 false false ", "Dim": "0 ", "Same": "false ", "Within": "[]false ", "Separate": "[] <= 0 ", "Corners": "0 ", "Ring": " ", "Area": "0 "}
	for _, name := range []string{"Canon", "Meet", "Hull", "Project", "Image", "Preimage", "Sum"} {
		empty[name] = "0"
	}
	failed := map[string]int{}
	polys := strangePolys()
	for range 2000 {
		for name, call := range calls(strange(&s, polys)) {
			text := call().text
			want, returnsError := empty[name]
			if i := strings.Index(text, "error "); returnsError && text[i:] != "error 0" {
				expect(t, name+" with an error", text[:i], want)
				failed[name]++
			}
		}
	}
	for name := range empty {
		if failed[name] < 100 {
			t.Error("too few errors of", name, failed[name])
		}
	}
}

// R3: nil and empty are the same.
func TestNilAndEmpty(t *testing.T) {
	some := []exact.Q{}
	none := arguments{}
	empty := arguments{p: hull.Poly{Rows: []hull.Row{}}, q: hull.Poly{Rows: []hull.Row{}}, c: some, x: some, v: some, m: exact.Mat{}, keep: []int{}, points: [][]exact.Q{}, rays: [][]exact.Q{}}
	empty.answer = hull.Answer{Point: some, Ray: some, Weights: some}
	empty.inclusion = hull.Inclusion{Weights: [][]exact.Q{}, Point: some}
	for _, kind := range []uint8{0, hull.Optimal, hull.Unbounded, hull.Void} {
		none.answer.Kind, empty.answer.Kind = kind, kind
		none.inclusion.Holds, empty.inclusion.Holds = kind > 1, kind > 1
		others := calls(empty)
		for name, call := range calls(none) {
			expect(t, name+" of nothing", call().text, others[name]().text)
		}
	}
}

// Numbers of many digits.
func TestGreatNumbers(t *testing.T) {
	s := source(24)
	great := func(n int) []exact.Q {
		l := make([]exact.Q, n)
		for i := range l {
			digits := strings.Repeat(strconv.Itoa(s.below(1000000)+1000000), 20)
			l[i] = num(digits).Mul(s.small(5))
			if s.below(2) == 0 {
				l[i], _ = l[i].Div(num(digits[:130]))
			}
		}
		return l
	}
	for range 20 {
		n := 1 + s.below(3)
		var points [][]exact.Q
		for range n + 3 {
			points = append(points, great(n))
		}
		p, e := hull.Hull(n, points, nil)
		if e != api.OK || !isCanonical(t, hull.Poly{N: n, Rows: p.Rows[:0]}) {
			t.Error("Hull", e)
		}
		corners, rays, e := hull.Corners(p)
		expectError(t, "Corners", e, api.OK)
		expect(t, "rays", listsText(rays), "")
		expect(t, "Corners", listsText(corners), listsText(allCorners(p)))
		c := great(n)
		a, e := hull.Maximize(c, p)
		if e != api.OK || !isRight(c, p, a) || !hull.Prove(c, p, a) {
			t.Error("Maximize", e)
		}
		sum, e := hull.Sum(p, p)
		expectError(t, "Sum", e, api.OK)
		twice, e := hull.Image(p, double(n), make([]exact.Q, n))
		expectError(t, "Image", e, api.OK)
		expect(t, "Sum of a polyhedron and itself", polyText(sum), polyText(twice))
	}
}

// double returns the matrix that doubles lists of n numbers.
func double(n int) exact.Mat {
	m := make(exact.Mat, n)
	for i := range m {
		m[i] = make([]exact.Q, n)
		m[i][i] = exact.Int(2)
	}
	return m
}

// DOC.md, example 2, and the examples of the chapter.
func TestExamples(t *testing.T) {
	q := square()
	a, e := hull.Maximize(ints(1, 1), q)
	expectError(t, "Maximize([1 1], Q)", e, api.OK)
	expect(t, "Maximize([1 1], Q)", answerText(a), "1 2|1 1||1 0 1 0")
	x, e := hull.Least(q)
	expectError(t, "Least(Q)", e, api.OK)
	expect(t, "Least(Q)", listText(x), "0 0")
	_, e = hull.Least(poly(1, "1 <= 1"))
	expectError(t, "Least of x <= 1", e, api.ErrOpen)
	c, e := hull.Canon(q)
	expectPoly(t, "Canon(Q)", c, e, 2, "-1 0 <= 0", "0 -1 <= 0", "0 1 <= 1", "1 0 <= 1")
	c, e = hull.Canon(poly(2, "2 4 <= 6", "-1 -2 <= -3", "1 0 <= 7"))
	expectPoly(t, "Canon", c, e, 2, "1 2 <= 3", "-1 -2 <= -3", "0 -1 <= 2")
	points, rays, e := hull.Corners(q)
	expectError(t, "Corners(Q)", e, api.OK)
	expect(t, "Corners(Q)", listsText(points)+listsText(rays), "[0 0][0 1][1 0][1 1]")
	ring, e := hull.Ring(q)
	expectError(t, "Ring(Q)", e, api.OK)
	expect(t, "Ring(Q)", ringText(ring), "[0 0][1 0][1 1][0 1]")
	area, e := hull.Area(q)
	expectError(t, "Area(Q)", e, api.OK)
	expect(t, "Area(Q)", area.Text(), "1")
	cut, _ := hull.Meet(q, poly(2, "1 1 <= 1"))
	c, e = hull.Project(cut, []int{1})
	expectPoly(t, "Project", c, e, 1, "-1 <= 0", "1 <= 1")
	c, e = hull.Sum(q, q)
	expectPoly(t, "Sum(Q, Q)", c, e, 2, "-1 0 <= 0", "0 -1 <= 0", "0 1 <= 2", "1 0 <= 2")
	r, e := hull.Separate(q, poly(2, "-1 0 <= -2"))
	if e != api.OK || !separates(t, r, q, poly(2, "-1 0 <= -2")) {
		t.Error("Separate(Q, x >= 2):", rowText(r), e)
	}
	c, e = hull.Hull(1, lists("3"), lists("1"))
	expectPoly(t, "Hull(1, [3], [1])", c, e, 1, "-1 <= -3")
}
