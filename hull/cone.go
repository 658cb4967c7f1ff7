package hull

import "slices"

// ray is a direction of a cone that generates it, with the indexes of the rows
// that are 0 on it. sure is for who looks for rays that remain.
type ray struct {
	vec
	tight marks
	sure  bool
}

// cone is the set of the vectors on which no row is above 0: the sums of
// multiples of the lines, and of multiples by numbers not below 0 of the rays,
// of which none can be left out. It takes in rows one after another (the
// double description method); taken is their number.
type cone struct {
	size  int
	taken int
	lines []vec
	rays  []ray
}

// newCone returns the cone of all vectors of that size.
func newCone(size int) *cone {
	c := &cone{size: size}
	for i := range size {
		c.lines = append(c.lines, unitVec(size, i))
	}
	return c
}

// take cuts off the vectors on which the row is above 0.
func (c *cone) take(row vec) {
	defer func() { c.taken++ }()
	for i, line := range c.lines {
		if row.dot(line).Sign() != 0 {
			c.lines = slices.Delete(c.lines, i, i+1)
			c.cutLine(row, line)
			return
		}
	}
	c.cutRays(row)
}

// cutLine leaves one half of a line as a ray; all else is brought to where the
// row is 0.
func (c *cone) cutLine(row, line vec) {
	level := leveller(row, line)
	for i, other := range c.lines {
		c.lines[i] = level(other)
	}
	for i, r := range c.rays {
		c.rays[i] = ray{vec: level(r.vec), tight: r.tight.with(c.taken)}
	}
	if row.dot(line).Sign() > 0 {
		line = line.negated()
	}
	var all marks
	for i := range c.taken {
		all = all.with(i)
	}
	c.rays = append(c.rays, ray{vec: line, tight: all})
}

// cutRays replaces the rays on which the row is above 0 by those where it is 0
// between them and their neighbours.
func (c *cone) cutRays(row vec) {
	var left, inside, outside []ray
	for _, r := range c.rays {
		switch row.dot(r.vec).Sign() {
		case 0:
			r.tight = r.tight.with(c.taken)
			left = append(left, r)
		case -1:
			left = append(left, r)
			inside = append(inside, r)
		case 1:
			outside = append(outside, r)
		}
	}
	for _, out := range outside {
		level := leveller(row, out.vec)
		for _, in := range inside {
			if common, ok := c.neighbours(in, out); ok {
				left = append(left, ray{vec: level(in.vec), tight: common.with(c.taken)})
			}
		}
	}
	c.rays = left
}

// neighbours reports whether two rays have nothing between them but their
// sums, and returns the rows that are 0 on both.
func (c *cone) neighbours(a, b ray) (marks, bool) {
	if a.tight.shared(b.tight) < c.size-len(c.lines)-2 {
		return nil, false
	}
	common, found := a.tight.and(b.tight), 0
	for _, r := range c.rays {
		if common.within(r.tight) {
			if found++; found > 2 {
				return nil, false
			}
		}
	}
	return common, true
}

// manyRays is how many times as many rays as are asked for a cone may have
// while it takes in rows. It may get many more on the way than it has in the
// end, and then another way is better.
const manyRays = 4

// extremes returns the extreme rays of the cone of the vectors on which no row
// is above 0; false: they are more than the limit. The cone is pointed.
func extremes(size int, rows []vec, limit int) ([]vec, bool) {
	c := newCone(size)
	for _, row := range rows {
		c.take(row)
		if len(c.rays) > manyRays*limit {
			return walkExtremes(size, rows, limit)
		}
	}
	if len(c.rays) > limit {
		return nil, false
	}
	found := make([]vec, len(c.rays))
	for i, r := range c.rays {
		found[i] = r.vec
	}
	return found, true
}
