package team

import (
	"slices"

	"amble/api"
	"amble/exact"
)

func (n Net) hasMember(who int) bool { return 0 <= who && who < n.Size }

// isLink reports whether the net may have this link behind the others.
func (n Net) isLink(link [2]int, others [][2]int) bool {
	from, to := link[0], link[1]
	return n.hasMember(from) && n.hasMember(to) && from != to && !slices.Contains(others, link)
}

// CheckNet returns ErrArg if the net is not valid.
func CheckNet(n Net) api.Errno {
	if n.Size < 1 || n.Size > api.MaxTeam || len(n.Links) > api.MaxLinks || n.Weight.Sign() <= 0 {
		return api.ErrArg
	}
	heard := make([]exact.Q, n.Size)
	for i, link := range n.Links {
		if !n.isLink(link, n.Links[:i]) {
			return api.ErrArg
		}
		to := link[1]
		heard[to] = heard[to].Add(n.Weight)
	}
	if exact.Max(heard...).Cmp(exact.Int(1)) > 0 {
		return api.ErrArg
	}
	return api.OK
}

// checkLost returns ErrRange if one of the links is none of the net.
func checkLost(n Net, lost []int) api.Errno {
	isNone := func(link int) bool { return link < 0 || link >= len(n.Links) }
	if slices.ContainsFunc(lost, isNone) {
		return api.ErrRange
	}
	return api.OK
}

func identity(n int) exact.Mat {
	var m exact.Mat
	for i := range n {
		m = append(m, unit(n, i))
	}
	return m
}

// matrix returns the matrix of a round of a valid net.
func matrix(n Net, lost []int) exact.Mat {
	m := identity(n.Size)
	for i, link := range n.Links {
		if slices.Contains(lost, i) {
			continue
		}
		from, to := link[0], link[1]
		m[to][from] = m[to][from].Add(n.Weight)
		m[to][to] = m[to][to].Sub(n.Weight)
	}
	return m
}

// Matrix returns the matrix of a round in which these links are lost.
func Matrix(n Net, lost []int) (exact.Mat, api.Errno) {
	if e := CheckNet(n); e != api.OK {
		return nil, e
	}
	if e := checkLost(n, lost); e != api.OK {
		return nil, e
	}
	return matrix(n, lost), api.OK
}

// Round returns the members' numbers after a round in which these links are
// lost.
func Round(n Net, x []exact.Q, lost []int) ([]exact.Q, api.Errno) {
	return Rounds(n, x, [][]int{lost})
}

// Rounds returns the members' numbers after rounds, with the links that are lost
// in each.
func Rounds(n Net, x []exact.Q, lost [][]int) ([]exact.Q, api.Errno) {
	if CheckNet(n) != api.OK || len(x) != n.Size {
		return nil, api.ErrArg
	}
	x = slices.Clone(x)
	for _, links := range lost {
		if e := checkLost(n, links); e != api.OK {
			return nil, e
		}
		x, _ = exact.Apply(matrix(n, links), x)
	}
	return x, api.OK
}
