package hull

import (
	"strings"

	"amble/whole"
)

// walk returns the vectors that are found from a first one by going from each
// of them to its neighbours; false: they are more than the limit. A neighbour
// is what next gives for one of the ways from here, if it is not 0. It fails,
// too, where the ways from one vector are too many.
func walk(first vec, limit int, ways func(here vec) ([]vec, bool), next func(here, way vec) vec) ([]vec, bool) {
	var found []vec
	seen := map[string]bool{}
	meet := func(v vec) {
		if key := v.key(); !v.isZero() && !seen[key] {
			seen[key] = true
			found = append(found, v)
		}
	}
	meet(first)
	for i := 0; i < len(found) && len(found) <= limit; i++ {
		here := found[i]
		all, ok := ways(here)
		if !ok {
			return nil, false
		}
		for _, way := range all {
			meet(next(here, way))
		}
	}
	return found, len(found) <= limit
}

// key returns a text that only equal vectors have in common.
func (v vec) key() string {
	words := make([]string, len(v))
	for i := range v {
		words[i] = v[i].Q().Text()
	}
	return strings.Join(words, " ")
}

// firstRay returns an extreme ray of a pointed cone; 0 if it has none. The sum
// of the rows is below 0 on all other vectors of the cone, so that the part
// where it is at least -1 is bounded, and has extreme rays for corners.
func firstRay(size int, rows []vec) vec {
	goal := make(vec, size+1)
	cut := make([]vec, 0, len(rows)+1)
	for _, row := range rows {
		cut = append(cut, row.with(size, whole.Int{}))
		for i := range row {
			goal[i] = goal[i].Add(row[i].Neg())
		}
	}
	t := newTableau(size, append(cut, goal[:size:size].with(size, whole.Of(-1))))
	t.settle()
	t.rise(goal.dot)
	return t.vertex[:size:size].primitive()
}

// walkExtremes returns what extremes does. It goes from ray to ray, so that it
// notices soon if they are more than the limit.
func walkExtremes(size int, rows []vec, limit int) ([]vec, bool) {
	ways := func(here vec) ([]vec, bool) { return waysFrom(here, rows, limit) }
	next := func(here, way vec) vec { return nextRay(here, way, rows) }
	return walk(firstRay(size, rows), limit, ways, next)
}

// firstColumn returns the first place where a vector, which is not 0, is not 0.
func (v vec) firstColumn() int {
	column := 0
	for v[column].Sign() == 0 {
		column++
	}
	return column
}

// waysFrom returns directions, one for each face of two dimensions that has
// this ray for one of its two: the extreme rays of the cone that the ray's
// rows leave if it is a line. Each of them leads to another ray, so they are
// not more than the limit if the rays are not.
func waysFrom(here vec, rows []vec, limit int) ([]vec, bool) {
	column := here.firstColumn()
	var left []vec
	for _, row := range rows {
		if row.dot(here).Sign() == 0 {
			left = append(left, row.without(column))
		}
	}
	ways, ok := extremes(len(here)-1, left, limit)
	for i, way := range ways {
		ways[i] = way.with(column, whole.Int{})
	}
	return ways, ok
}

// nextRay returns the other extreme ray of a face of two dimensions: of all
// sums of way and a multiple of here that belong to the cone the one with the
// least multiple.
func nextRay(here, way vec, rows []vec) vec {
	var best least
	for i, row := range rows {
		if slope := row.dot(here); slope.Sign() < 0 {
			best.offer(fraction{row.dot(way).Neg(), slope.Neg()}, i, i)
		}
	}
	return leveller(rows[best.at], here)(way)
}
