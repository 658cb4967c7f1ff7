package contact

import (
	"amble/api"
	"amble/exact"
)

// areTouches reports whether there are no more contacts than a problem may
// have, with frictions and a restitution that it may have.
func areTouches(mu []exact.Q, e exact.Q) bool {
	if len(mu) > api.MaxTouch || exact.Min(mu...).Sign() < 0 {
		return false
	}
	return e.Sign() >= 0 && e.Cmp(exact.Int(1)) <= 0
}

// size returns how many velocities and impulses the problem has.
func (x Problem) size() int { return 2 * len(x.Mu) }

func (x Problem) isValid() bool {
	if !areTouches(x.Mu, x.E) || len(x.V) != x.size() || len(x.G) != x.size() {
		return false
	}
	is, _, e := exact.Semidefinite(x.G)
	return is && e == api.OK
}

// Check returns ErrArg if the problem is not valid.
func Check(x Problem) api.Errno {
	if !x.isValid() {
		return api.ErrArg
	}
	return api.OK
}

// checkWith returns ErrArg if the problem is not valid, or has not as many
// impulses as are in the list.
func checkWith(x Problem, l []exact.Q) api.Errno {
	if len(l) != x.size() {
		return api.ErrArg
	}
	return Check(x)
}

// checkWord returns ErrArg if the problem is not valid, or the word is none of
// its words.
func checkWord(x Problem, word []uint8) api.Errno {
	if len(word) != len(x.Mu) {
		return api.ErrArg
	}
	for _, mode := range word {
		if mode > Back {
			return api.ErrArg
		}
	}
	return Check(x)
}
