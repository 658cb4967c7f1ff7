package hull

import (
	"slices"
	"testing"

	"amble/whole"
)

// These tests compare the ways that the package takes for large polyhedra with
// those for small ones, on small ones. They cannot be told apart from outside.

// source gives numbers that look random; the same ones in each run.
type source uint64

func (s *source) below(n int) int {
	*s += 0x9e3779b97f4a7c15
	x := uint64(*s)
	x = (x ^ x>>30) * 0xbf58476d1ce4e5b9
	x = (x ^ x>>27) * 0x94d049bb133111eb
	return int((x ^ x>>31) % uint64(n))
}

func (s *source) vec(n, most int) vec {
	v := make(vec, n)
	for i := range v {
		if s.below(4) > 0 {
			v[i] = whole.Of(int64(s.below(2*most+1) - most))
		}
	}
	return v
}

func (s *source) vecs(count, n, most int) []vec {
	l := make([]vec, count)
	for i := range l {
		l[i] = s.vec(n, most)
	}
	return l
}

// text returns the vectors in order.
func text(l []vec) string {
	var words []string
	for _, v := range l {
		words = append(words, v.key())
	}
	slices.Sort(words)
	all := ""
	for _, word := range words {
		all += "[" + word + "]"
	}
	return all
}

func TestWalkFindsWhatConesHave(t *testing.T) {
	s := source(1)
	compared := 0
	for range 2000 {
		size := 1 + s.below(5)
		rows := s.vecs(s.below(9), size, 2)
		if s.below(3) == 0 && len(rows) > 0 {
			rows = append(rows, rows[0].negated())
		}
		c := newCone(size)
		for _, row := range rows {
			c.take(row)
		}
		if len(c.lines) > 0 {
			continue
		}
		compared++
		n := len(c.rays)
		want, _ := extremes(size, rows, n)
		got, ok := walkExtremes(size, rows, n)
		if !ok || text(got) != text(want) {
			t.Fatalf("the rays of %s: got %s %v, want %s", text(rows), text(got), ok, text(want))
		}
		for limit := range n {
			_, enough := extremes(size, rows, limit)
			_, reached := walkExtremes(size, rows, limit)
			if enough || reached {
				t.Fatal("more rays than the limit allows:", text(rows))
			}
		}
	}
	if compared < 500 {
		t.Error("too few pointed cones:", compared)
	}
}

// shapes calls use with shapes of many kinds.
func shapes(use func(shape)) {
	s := source(2)
	for range 1500 {
		size := 2 + s.below(4)
		sys, ok := newSystem(size, nil, s.vecs(s.below(12), size+1, 2))
		if ok && len(sys.pivots) == 0 {
			hidden := s.below(size)
			use(shape{sys.rows, sys.inner, hidden})
		}
	}
}

// eliminated returns what project does, by eliminating all hidden numbers.
func (s shape) eliminated() []vec {
	for s.hidden > 0 {
		s.rows, _ = needful(s.rows, s.inner, len(s.rows))
		s = s.eliminate(0)
	}
	left, _ := needful(s.rows, s.inner, len(s.rows))
	return left
}

func TestOutlineFindsWhatEliminationLeaves(t *testing.T) {
	compared := 0
	shapes(func(s shape) {
		compared++
		want := s.eliminated()
		n := len(want)
		if got, ok := s.outline(n); !ok || text(got) != text(want) {
			t.Fatalf("the outline of %s without %d: got %s %v, want %s", text(s.rows), s.hidden, text(got), ok, text(want))
		}
		if got, ok := s.project(n); !ok || text(got) != text(want) {
			t.Fatalf("the projection of %s without %d: got %s %v, want %s", text(s.rows), s.hidden, text(got), ok, text(want))
		}
		if n == 0 {
			return
		}
		for _, first := range want {
			if got, ok := s.look().surround(first, n); !ok || text(got) != text(want) {
				t.Fatalf("around %s without %d, from %s: got %s %v, want %s", text(s.rows), s.hidden, first.key(), text(got), ok, text(want))
			}
		}
		_, outlined := s.outline(n - 1)
		_, projected := s.project(n - 1)
		_, surrounded := s.look().surround(want[0], n-1)
		if outlined || projected || surrounded {
			t.Fatal("more rows than the limit allows:", text(s.rows))
		}
	})
	if compared < 500 {
		t.Error("too few shapes:", compared)
	}
}

// needfulByLeavingOut returns what needful does, by leaving out rows one by
// one.
func needfulByLeavingOut(rows []vec, size int) []vec {
	left := tidy(rows)
	for i := 0; i < len(left); {
		others := append(left[:i:i], left[i+1:]...)
		t := newTableau(size, others)
		t.settle()
		if _, open := t.rise(left[i].dot); open || left[i].dot(t.vertex).Sign() > 0 {
			i++
		} else {
			left = others
		}
	}
	return left
}

func TestNeedful(t *testing.T) {
	shapes(func(s shape) {
		size := len(s.inner) - 1
		rows := s.rows
		for i := range rows { // sums of rows, which are never needful, and rows that touch a corner
			rows = append(rows, combine(whole.Of(1), rows[i], whole.Of(int64(i)), rows[0]))
		}
		want := needfulByLeavingOut(rows, size)
		got, ok := needful(rows, s.inner, len(want))
		if !ok || text(got) != text(want) {
			t.Fatalf("needful of %s: got %s, want %s", text(rows), text(got), text(want))
		}
		if _, ok := needful(rows, s.inner, len(want)-1); ok && len(want) > 0 {
			t.Fatal("more rows than the limit allows:", text(rows))
		}
	})
}

// The careful rules, which a tableau follows when it has had no success with
// the quick ones for long, lead to the same ends.
func TestCarefulRules(t *testing.T) {
	s := source(3)
	ends := map[string]int{}
	for range 1000 {
		size := 1 + s.below(4)
		rows, goal := s.vecs(s.below(10), size+1, 2), s.vec(size, 3).with(size, whole.Int{})
		quick, careful := newTableau(size, rows), newTableau(size, rows)
		careful.careful = true
		end := quick.end(goal)
		if got := careful.end(goal); got != end {
			t.Fatalf("%s, %s: got %s, want %s", text(rows), goal.key(), got, end)
		}
		ends[end]++
	}
	if ends["void"] < 100 || ends["open"] < 100 || ends["void"]+ends["open"] > 900 {
		t.Error("too few of a kind:", ends)
	}
}

// end returns what becomes of the goal: the greatest value, as a text.
func (t *tableau) end(goal vec) string {
	if _, ok := t.settle(); !ok {
		return "void"
	}
	if _, open := t.rise(goal.dot); open {
		return "open"
	}
	if _, broken := t.firstBroken(); broken {
		return "broken"
	}
	n := len(goal) - 1
	return over(goal.dot(t.vertex).Q(), t.vertex[n].Q()).Text()
}
