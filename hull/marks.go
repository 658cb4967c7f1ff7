package hull

import "math/bits"

// marks is a set of indexes, a binary digit for each of them. It is never
// changed.
type marks []uint64

// at returns the digits with the index i, 0 beyond the last ones.
func (m marks) at(i int) uint64 {
	if i < len(m) {
		return m[i]
	}
	return 0
}

// with returns the set with one index more.
func (m marks) with(index int) marks {
	grown := make(marks, max(len(m), index/64+1))
	copy(grown, m)
	grown[index/64] |= 1 << uint(index%64)
	return grown
}

// and returns what two sets have in common.
func (m marks) and(o marks) marks {
	both := make(marks, min(len(m), len(o)))
	for i := range both {
		both[i] = m[i] & o[i]
	}
	return both
}

// shared returns how many indexes two sets have in common.
func (m marks) shared(o marks) int {
	n := 0
	for i := range min(len(m), len(o)) {
		n += bits.OnesCount64(m[i] & o[i])
	}
	return n
}

// within reports whether all indexes are in the other set.
func (m marks) within(o marks) bool {
	for i, digits := range m {
		if digits&^o.at(i) != 0 {
			return false
		}
	}
	return true
}
