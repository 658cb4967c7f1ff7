package hull

import (
	"amble/exact"
	"amble/whole"
)

// shape is the set of the points for which no row is above 0, without the
// first numbers of each, which are hidden. At the inner point all rows are
// below 0.
type shape struct {
	rows   []vec
	inner  vec
	hidden int
}

// dimension returns how many numbers are left of each point.
func (s shape) dimension() int { return len(s.inner) - 1 - s.hidden }

// project returns tidy and needful rows for a shape; false: more than the
// limit. Hidden numbers are eliminated as long as this makes few new rows.
func (s shape) project(limit int) ([]vec, bool) {
	for s.hidden > 0 {
		s.rows, _ = needful(s.rows, s.inner, len(s.rows))
		column, made := s.cheapest()
		if made > s.affordable() {
			return s.outline(limit)
		}
		s = s.eliminate(column)
	}
	return needful(s.rows, s.inner, limit)
}

// affordable returns how many new rows may be made at once. The fewer numbers
// are left, the fewer linear programs an outline needs.
func (s shape) affordable() int {
	if s.hidden == 1 && s.dimension() > 4 {
		return 10000
	}
	return max(60, len(s.rows))
}

// cheapest returns the hidden column whose elimination makes the fewest new
// rows, and how many.
func (s shape) cheapest() (best, made int) {
	for column := range s.hidden {
		above, below := 0, 0
		for _, row := range s.rows {
			switch row[column].Sign() {
			case 1:
				above++
			case -1:
				below++
			}
		}
		if column == 0 || above*below < made {
			best, made = column, above*below
		}
	}
	return best, made
}

// eliminate returns the same shape without one of the hidden columns: with
// rows that are true if there is some number for this column (the method of
// Fourier and Motzkin).
func (s shape) eliminate(column int) shape {
	less := shape{inner: s.inner.without(column).primitive(), hidden: s.hidden - 1}
	keep := func(row vec) {
		if row = row.without(column); !row.isEmpty() {
			less.rows = append(less.rows, row)
		}
	}
	for _, row := range s.rows {
		if row[column].Sign() == 0 {
			keep(row)
		}
		if row[column].Sign() <= 0 {
			continue
		}
		for _, other := range s.rows {
			if other[column].Sign() < 0 {
				keep(combine(other[column].Neg(), row, row[column], other))
			}
		}
	}
	return less
}

// sight sees how far a shape reaches in a direction.
type sight struct {
	shape
	*tableau
}

func (s shape) look() sight {
	t := newTableau(len(s.inner)-1, s.rows)
	t.settle()
	return sight{s, t}
}

// farthest returns a point of the shape where the row's left side is greatest,
// or a direction in which it rises without end. (The row's product with it is
// above 0 if the row is not true for all of the shape.)
func (s sight) farthest(row vec) vec {
	goal := make(vec, len(s.inner))
	copy(goal[s.hidden:len(s.inner)-1], row)
	end, open := s.rise(goal.dot)
	if !open {
		end = s.vertex
	}
	return end[s.hidden:].primitive()
}

// manyDoubts is how many times as many rows as are asked for an outline may
// have while it is not sure of them. Beyond this the way from facet to facet is
// shorter, though each step of it needs more linear programs.
const manyDoubts = 15

// outline returns what project does. It takes points and directions from
// linear programs, and asks for each row that is true for these whether it is
// true for all of the shape, until all are.
func (s shape) outline(limit int) ([]vec, bool) {
	view := s.look()
	c := view.block()
	var sure []vec
	for {
		doubt, ok := c.doubtful()
		if !ok {
			return tidy(sure), true
		}
		row := c.rays[doubt].vec
		if end := view.farthest(row); end.dot(row).Sign() > 0 {
			c.take(end)
		} else {
			c.rays[doubt].sure = true
			if !row.isEmpty() {
				sure = append(sure, row)
			}
		}
		if len(sure) > limit {
			return nil, false
		}
		if len(c.rays) > manyDoubts*limit && len(sure) > 0 {
			return view.surround(sure[0], limit)
		}
	}
}

// block returns the cone of the rows that are true for some points and
// directions of the shape, so many that no equation holds for all of them.
func (s sight) block() *cone {
	c := newCone(s.dimension() + 1)
	c.take(s.vertex[s.hidden:].primitive())
	for len(c.lines) > 0 {
		line := c.lines[0]
		end := s.farthest(line)
		if end.dot(line).Sign() == 0 {
			end = s.farthest(line.negated())
		}
		c.take(end)
	}
	return c
}

// doubtful returns the last ray that is not sure.
func (c *cone) doubtful() (int, bool) {
	for i := len(c.rays) - 1; i >= 0; i-- {
		if !c.rays[i].sure {
			return i, true
		}
	}
	return 0, false
}

// surround returns what outline does, from a first row of it. It goes from
// facet to facet, so that it notices soon if they are more than the limit.
func (s sight) surround(first vec, limit int) ([]vec, bool) {
	ridges := func(here vec) ([]vec, bool) { return s.ridges(here, limit) }
	found, ok := walk(first, limit, ridges, s.turned)
	if len(found) == 1 {
		found = append(found, s.opposite(first)...)
	}
	return tidy(found), ok && len(found) <= limit
}

// opposite returns the other facet, if there is one, of a shape of which no
// way leads from a facet: it lies between two parallel ones, or behind one.
func (s sight) opposite(here vec) []vec {
	end := s.farthest(here.negated())
	n := len(here) - 1
	if end[n].Sign() == 0 {
		return nil
	}
	return []vec{leveller(end, unitVec(n+1, n))(here.negated())}
}

// ridges returns rows that bound the facet of a row: the facets of the shape
// that is left of the facet without one number that the others determine. They
// are not more than the limit if the shape's facets are not.
func (s sight) ridges(here vec, limit int) ([]vec, bool) {
	column := here.firstColumn()
	size := len(s.inner) - 1
	front := func(v vec) vec {
		return v.without(s.hidden+column).with(0, v[s.hidden+column])
	}
	rows := make([]vec, len(s.shape.rows))
	for i, row := range s.shape.rows {
		rows[i] = front(row)
	}
	equation := front(here.widened(0, s.hidden)).list()
	facet, _ := newSystem(size, exact.Mat{equation}, rows)
	left, ok := facet.cut(s.hidden+1, limit)
	for i, way := range left.rows {
		left.rows[i] = way.with(column, whole.Int{})
	}
	return left.rows, ok
}

// turned returns the row of the other facet at a ridge: of all sums of way and
// a multiple of here that are true for all of the shape the one with the least
// multiple.
func (s sight) turned(here, way vec) vec {
	end := s.farthest(here.negated())
	for {
		row := leveller(end, here)(way)
		if end = s.farthest(row); end.dot(row).Sign() <= 0 {
			return row
		}
	}
}
