package team_test

import (
	"amble/api"
	"amble/exact"
	"amble/team"
)

// source gives numbers that look random; the same ones in each run.
type source uint64

func (s *source) next() uint64 {
	*s += 0x9e3779b97f4a7c15
	x := uint64(*s)
	x = (x ^ x>>30) * 0xbf58476d1ce4e5b9
	x = (x ^ x>>27) * 0x94d049bb133111eb
	return x ^ x>>31
}

func (s *source) below(n int) int { return int(s.next() % uint64(n)) }

// chance reports true about once in n times.
func (s *source) chance(n int) bool { return s.below(n) == 0 }

// one returns one of the numbers of a text.
func (s *source) one(text string) exact.Q {
	l := nums(text)
	return l[s.below(len(l))]
}

// number returns a number from -5 to 5, often an integer.
func (s *source) number() exact.Q {
	under := int64(1)
	if s.chance(3) {
		under = int64(2 + s.below(4))
	}
	q, _ := exact.Of(int64(s.below(int(10*under+1)))-5*under, under)
	return q
}

// numbers returns so many.
func (s *source) numbers(n int) []exact.Q {
	l := make([]exact.Q, n)
	for i := range l {
		l[i] = s.number()
	}
	return l
}

// carrier returns one that is valid; often several are at one place, or have the
// same cost.
func (s *source) carrier() team.Carrier {
	low := s.one("0 0 0 1/2 1 2")
	return team.Carrier{At: s.one("-1 0 0 1 2 1/3"), Low: low, High: low.Add(s.one("0 1 2 5 7/2")),
		Cost: s.one("0 1 1 2 1/2 5"), Jump: s.one("0 1 1/2 2 3 9")}
}

func (s *source) carriers(n int) []team.Carrier {
	var l []team.Carrier
	for range n {
		l = append(l, s.carrier())
	}
	return l
}

// shares returns one for each carrier, from Low to High; often at an end.
func (s *source) shares(l []team.Carrier) []exact.Q {
	var shares []exact.Q
	for _, c := range l {
		part := s.one("0 1 1/2 1/3")
		shares = append(shares, c.Low.Add(c.High.Sub(c.Low).Mul(part)))
	}
	return shares
}

// burden returns the load that the shares hold; false: they hold none.
func burden(l []team.Carrier, shares []exact.Q) (team.Load, bool) {
	weight := exact.Sum(shares...)
	if weight.Sign() == 0 {
		return team.Load{}, false
	}
	return team.Load{Weight: weight, At: over(dot(places(l), shares), weight)}, true
}

// laden returns valid carriers with a load, which they often can hold.
func (s *source) laden(n int) ([]team.Carrier, team.Load) {
	l := s.carriers(n)
	w, ok := burden(l, s.shares(l))
	if !ok || s.chance(4) {
		w = team.Load{Weight: s.one("1 2 3 5 8"), At: s.one("0 1 1/2 -1")}
	}
	return l, w
}

// net returns one that is valid.
func (s *source) net() team.Net {
	n := team.Net{Size: 1 + s.below(api.MaxTeam)}
	heard := make([]int, n.Size)
	for from := range n.Size {
		for to := range n.Size {
			if from != to && s.chance(2) {
				n.Links = append(n.Links, [2]int{from, to})
				heard[to]++
			}
		}
	}
	for i := len(n.Links) - 1; i > 0; i-- {
		k := s.below(i + 1)
		n.Links[i], n.Links[k] = n.Links[k], n.Links[i]
	}
	most := int64(1)
	for _, count := range heard {
		most = max(most, int64(count))
	}
	n.Weight = over(s.one("1 1 1/2 1/3 2/3"), exact.Int(most))
	return n
}

// small returns a valid net with at most so many links.
func (s *source) small(links int) team.Net {
	n := s.net()
	n.Links = n.Links[:min(links, len(n.Links))]
	return n
}

// lost returns some of a net's links, now and then one twice.
func (s *source) lost(n team.Net) []int {
	var l []int
	for range len(n.Links) {
		if s.chance(3) {
			l = append(l, s.below(len(n.Links)))
		}
	}
	return l
}

// rounds returns so many sets of lost links.
func (s *source) rounds(n team.Net, count int) [][]int {
	var l [][]int
	for range count {
		l = append(l, s.lost(n))
	}
	return l
}

// act returns one for a ring; now and then there is no such act, member or
// message.
func (s *source) act(r team.Ring) team.Act {
	a := team.Act{Kind: uint8(1 + s.below(5))}
	if s.chance(30) {
		a.Kind = uint8(s.below(256))
	}
	most := len(r.Members)
	if a.Kind >= team.DoBring {
		most = len(r.Flying)
	}
	a.Who = s.below(most + 1)
	if a.Who == most && !s.chance(10) {
		a.Who = 0
	}
	if s.chance(50) {
		a.Who = -1
	}
	return a
}

// acts returns so many that fit a ring of n members.
func (s *source) acts(n, count int) []team.Act {
	r, _ := team.NewRing(n)
	var l []team.Act
	for range count {
		a := s.act(r)
		l = append(l, a)
		if next, e := team.Do(r, a); e == api.OK {
			r = next
		}
	}
	return l
}
