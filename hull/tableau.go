package hull

import (
	"slices"

	"amble/whole"
)

// edge is a direction that leaves one row of a basis, on which it is below 0,
// and on which the other rows of the basis are 0.
type edge struct {
	vec
	row int
}

// tableau is a vertex of some rows, for the simplex method: the rows of its
// basis, one for each edge, are 0 there. Along the lines no row changes. A
// careful tableau does not begin with quick rules.
type tableau struct {
	rows    []vec
	edges   []edge
	lines   []vec
	vertex  vec
	careful bool
}

// newTableau returns a tableau for rows about points of n numbers; they need
// not be true at its vertex.
func newTableau(n int, rows []vec) *tableau {
	t := &tableau{rows: rows[:len(rows):len(rows)], vertex: unitVec(n+1, n)}
	for i := range n {
		t.lines = append(t.lines, unitVec(n+1, i))
	}
	for i := range rows {
		t.admit(i)
	}
	return t
}

// add takes in one more row; there are points where all rows are true. The
// tableau is settled, and remains so.
func (t *tableau) add(row vec) {
	t.rows = append(t.rows, row)
	t.admit(len(t.rows) - 1)
	t.settle()
}

// admit takes the row into the basis if it is not 0 on all lines.
func (t *tableau) admit(row int) {
	for i, line := range t.lines {
		if t.rows[row].dot(line).Sign() != 0 {
			t.lines = slices.Delete(t.lines, i, i+1)
			t.edges = append(t.edges, edge{line, row})
			t.exchange(row, len(t.edges)-1)
			return
		}
	}
}

// exchange moves along the edge, forth or back, to where the row is 0. The row
// takes the place of the one that the edge leaves.
func (t *tableau) exchange(row, at int) {
	along := t.edges[at].vec
	level := leveller(t.rows[row], along)
	for i := range t.edges {
		t.edges[i].vec = level(t.edges[i].vec)
	}
	for i := range t.lines {
		t.lines[i] = level(t.lines[i])
	}
	t.vertex = level(t.vertex)
	if t.rows[row].dot(along).Sign() > 0 {
		along = along.negated()
	}
	t.edges[at] = edge{along, row}
}

// isLong reports whether so many steps with quick rules are enough. Behind them
// come those that cannot go round in a circle (Bland's).
func (t *tableau) isLong(steps int) bool {
	return t.careful || steps > 4*(len(t.rows)+len(t.edges))
}

// value returns the row's product with the vertex.
func (t *tableau) value(row int) whole.Int { return t.rows[row].dot(t.vertex) }

// firstBroken returns the first row that is not true at the vertex.
func (t *tableau) firstBroken() (int, bool) {
	for i := range t.rows {
		if t.value(i).Sign() > 0 {
			return i, true
		}
	}
	return 0, false
}

// mostBroken returns the row that is farthest from being true at the vertex.
func (t *tableau) mostBroken() (int, bool) {
	at, most := 0, whole.Int{}
	for i := range t.rows {
		if value := t.value(i); value.Cmp(most) > 0 {
			at, most = i, value
		}
	}
	return at, most.Sign() > 0
}

// settle moves the vertex to where all rows are true. If this is nowhere, it
// returns a row that is true nowhere together with those of the basis. (This
// is the dual simplex method, for a goal that is greatest at the first vertex.)
func (t *tableau) settle() (int, bool) {
	goal := make(vec, len(t.vertex))
	for _, e := range t.edges {
		for i := range goal {
			goal[i] = goal[i].Add(t.rows[e.row][i])
		}
	}
	for step := 0; ; step++ {
		choose := t.mostBroken
		if t.isLong(step) {
			choose = t.firstBroken
		}
		row, ok := choose()
		if !ok {
			return 0, true
		}
		at, ok := t.exit(row, goal)
		if !ok {
			return row, false
		}
		t.exchange(row, at)
	}
}

// fraction is a quotient of two integers; under is above 0.
type fraction struct{ over, under whole.Int }

func (f fraction) cmp(g fraction) int {
	return f.over.Mul(g.under).Cmp(g.over.Mul(f.under))
}

// least keeps the least of the fractions that it is given, of equal ones the
// one with the least row, and the place that comes with it.
type least struct {
	fraction
	at, row int
	found   bool
}

func (l *least) offer(f fraction, at, row int) {
	if l.found {
		order := f.cmp(l.fraction)
		if order > 0 || order == 0 && row > l.row {
			return
		}
	}
	*l = least{f, at, row, true}
}

// exit returns an edge along which the broken row comes nearer to being true,
// and the goal shrinks least; false: there is none.
func (t *tableau) exit(row int, goal vec) (int, bool) {
	var best least
	for i, e := range t.edges {
		if slope := t.rows[row].dot(e.vec); slope.Sign() < 0 {
			best.offer(fraction{goal.dot(e.vec).Neg(), slope.Neg()}, i, e.row)
		}
	}
	return best.at, best.found
}

// firstRise returns, of the edges along which there is a gain, the one that
// leaves the first row.
func (t *tableau) firstRise(gain func(vec) whole.Int) (int, bool) {
	at, found := 0, false
	for i, e := range t.edges {
		if (!found || e.row < t.edges[at].row) && gain(e.vec).Sign() > 0 {
			at, found = i, true
		}
	}
	return at, found
}

// steepest returns the edge along which the gain is greatest, compared with
// how far its row is left.
func (t *tableau) steepest(gain func(vec) whole.Int) (int, bool) {
	var best least
	for i, e := range t.edges {
		if value := gain(e.vec); value.Sign() > 0 {
			best.offer(fraction{value.Neg(), t.rows[e.row].dot(e.vec).Neg()}, i, e.row)
		}
	}
	return best.at, best.found
}

// barrier returns the row that is reached first along a direction.
func (t *tableau) barrier(along vec) (int, bool) {
	var best least
	for i := range t.rows {
		if slope := t.rows[i].dot(along); slope.Sign() > 0 {
			best.offer(fraction{t.value(i).Neg(), slope}, i, i)
		}
	}
	return best.at, best.found
}

// rise moves the vertex to where the gain is greatest (the simplex method). If
// there is a gain without end, it returns a direction for it.
func (t *tableau) rise(gain func(vec) whole.Int) (ray vec, open bool) {
	for _, line := range t.lines {
		switch gain(line).Sign() {
		case 1:
			return line, true
		case -1:
			return line.negated(), true
		}
	}
	for step := 0; ; step++ {
		choose := t.steepest
		if t.isLong(step) {
			choose = t.firstRise
		}
		at, ok := choose(gain)
		if !ok {
			return nil, false
		}
		row, ok := t.barrier(t.edges[at].vec)
		if !ok {
			return t.edges[at].vec, true
		}
		t.exchange(row, at)
	}
}
