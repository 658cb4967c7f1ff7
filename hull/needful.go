package hull

// needful returns those rows that cannot be left out, as tidy does; false:
// more than the limit. At the inner point no row is 0. Each row is compared
// with the needful ones that are known; if it is broken somewhere where they
// are true, then on the way there from the inner point another needful one is
// met (Clarkson's method).
func needful(rows []vec, inner vec, limit int) ([]vec, bool) {
	rows = tidy(rows)
	known := make([]bool, len(rows))
	t := newTableau(len(inner)-1, nil)
	for i, row := range rows {
		for !known[i] {
			along, broken := t.breaking(row, inner)
			if !broken {
				break
			}
			met := firstMet(rows, inner, along)
			known[met] = true
			t.add(rows[met])
		}
		if len(t.rows) > limit {
			return nil, false
		}
	}
	var left []vec
	for i, row := range rows {
		if known[i] {
			left = append(left, row)
		}
	}
	return left, true
}

// breaking returns a direction from the inner point to where the row is broken,
// and those of the tableau are true; false: there is no such place.
func (t *tableau) breaking(row, inner vec) (vec, bool) {
	if row.dot(t.vertex).Sign() <= 0 {
		if ray, open := t.rise(row.dot); open {
			return ray, true
		}
	}
	n := len(inner) - 1
	along := combine(inner[n], t.vertex, t.vertex[n].Neg(), inner)
	return along, row.dot(t.vertex).Sign() > 0
}

// firstMet returns the row that is met first along a direction, seen from a
// point that is a little beside the inner one: it is shifted along the axes,
// ever so much less along each one than along the one before it. So it is
// never two rows that are met first, but one that is needful.
func firstMet(rows []vec, inner, along vec) int {
	met, found := 0, false
	for i, row := range rows {
		if row.dot(along).Sign() > 0 && (!found || isBefore(row, rows[met], inner, along)) {
			met, found = i, true
		}
	}
	return met
}

// isBefore reports whether the row a is met before b.
func isBefore(a, b, inner, along vec) bool {
	slopeA, slopeB := a.dot(along), b.dot(along)
	order := a.dot(inner).Mul(slopeB).Cmp(b.dot(inner).Mul(slopeA))
	for i := 0; order == 0 && i < len(a); i++ {
		order = a[i].Mul(slopeB).Cmp(b[i].Mul(slopeA))
	}
	return order > 0
}
