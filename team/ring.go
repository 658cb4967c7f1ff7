package team

import (
	"slices"

	"amble/api"
)

// NewRing returns the ring of n members at first.
func NewRing(n int) (Ring, api.Errno) {
	if n < 2 || n > api.MaxTeam {
		return Ring{}, api.ErrRange
	}
	r := Ring{Members: make([]Member, n)}
	r.Members[0].Seen, r.Members[0].Has = 1, true
	return r, api.OK
}

func (r *Ring) hasMember(who int) bool { return 0 <= who && who < len(r.Members) }

func (r *Ring) isWellFormed() bool {
	isWrong := func(m Member) bool { return m.Seen < 0 || m.Given < 0 || m.Steps < 0 }
	isAstray := func(m Message) bool { return !r.hasMember(m.To) || m.Number < 0 }
	isRing := 2 <= len(r.Members) && len(r.Members) <= api.MaxTeam
	return isRing && !slices.ContainsFunc(r.Members, isWrong) && !slices.ContainsFunc(r.Flying, isAstray)
}

func (r *Ring) step(who int) api.Errno {
	m := &r.Members[who]
	if !m.Has {
		return api.ErrState
	}
	m.Steps++
	return api.OK
}

// send adds a message at the end, if there is room.
func (r *Ring) send(m Message) api.Errno {
	if len(r.Flying) >= api.MaxFlying {
		return api.ErrLimit
	}
	r.Flying = append(r.Flying, m)
	return api.OK
}

func (r *Ring) give(who int) api.Errno {
	m := r.Members[who]
	if m.Has {
		m.Given, m.Has = m.Seen+1, false
	}
	if m.Given == 0 {
		return api.ErrState
	}
	e := r.send(Message{To: (who + 1) % len(r.Members), Number: m.Given})
	if e == api.OK {
		r.Members[who] = m
	}
	return e
}

func (r *Ring) bring(message int) api.Errno {
	arrived := r.Flying[message]
	if m := &r.Members[arrived.To]; arrived.Number > m.Seen {
		m.Seen, m.Has = arrived.Number, true
	}
	return r.lose(message)
}

func (r *Ring) lose(message int) api.Errno {
	r.Flying = slices.Delete(r.Flying, message, message+1)
	return api.OK
}

func (r *Ring) double(message int) api.Errno { return r.send(r.Flying[message]) }

// isThere reports whether there is such an act, and the member or the message
// that it concerns.
func (r *Ring) isThere(a Act) bool {
	switch a.Kind {
	case DoStep, DoGive:
		return r.hasMember(a.Who)
	case DoBring, DoLose, DoDouble:
		return 0 <= a.Who && a.Who < len(r.Flying)
	}
	return false
}

// do does an act; with an error nothing changes.
func (r *Ring) do(a Act) api.Errno {
	if !r.isThere(a) {
		return api.ErrRange
	}
	deeds := [...]func(*Ring, int) api.Errno{
		DoStep:   (*Ring).step,
		DoGive:   (*Ring).give,
		DoBring:  (*Ring).bring,
		DoLose:   (*Ring).lose,
		DoDouble: (*Ring).double,
	}
	return deeds[a.Kind](r, a.Who)
}

// Do returns the ring after an act.
func Do(r Ring, a Act) (Ring, api.Errno) {
	if !r.isWellFormed() {
		return Ring{}, api.ErrArg
	}
	next := Ring{slices.Clone(r.Members), slices.Clone(r.Flying)}
	if e := next.do(a); e != api.OK {
		return Ring{}, e
	}
	return next, api.OK
}

// Play does acts one after the other, beginning with a new ring, and returns the
// ring after them and the error of each.
func Play(n int, l []Act) (Ring, []api.Errno, api.Errno) {
	r, e := NewRing(n)
	if e != api.OK {
		return Ring{}, nil, e
	}
	var codes []api.Errno
	for _, a := range l {
		codes = append(codes, r.do(a))
	}
	return r, codes, api.OK
}

// Holders returns the members that have the token, rising.
func Holders(r Ring) []int {
	var holders []int
	for who, m := range r.Members {
		if m.Has {
			holders = append(holders, who)
		}
	}
	return holders
}
