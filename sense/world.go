package sense

import (
	"math/bits"
	"slices"

	"amble/api"
)

// maxTouches is how many feet there may be.
const maxTouches = 12

// footing is what is known of all feet: which of them touch for certain, which
// ones may touch, and which ones say so.
type footing struct{ must, may, says uint32 }

// footingOf returns the one of these feet.
func footingOf(l []Touch) footing {
	var f footing
	for i, t := range l {
		foot := uint32(1) << i
		if t.Gap.High.Sign() <= 0 {
			f.must |= foot
		}
		if t.Gap.Low.Sign() <= 0 {
			f.may |= foot
		}
		if t.Says {
			f.says |= foot
		}
	}
	return f
}

// allows reports whether the feet of a set, and only they, may touch, with at
// most so many switches that are wrong.
func (f footing) allows(world uint32, wrong int) bool {
	return f.must&^world == 0 && world&^f.may == 0 && bits.OnesCount32(world^f.says) <= wrong
}

// Worlds returns all worlds of feet of which at most f switches are wrong,
// rising.
func Worlds(l []Touch, f int) ([]uint32, api.Errno) {
	isWrong := func(t Touch) bool { return !t.Gap.isValid() }
	switch {
	case len(l) > maxTouches:
		return nil, api.ErrLimit
	case slices.ContainsFunc(l, isWrong):
		return nil, api.ErrArg
	case f < 0:
		return nil, api.ErrRange
	}
	var worlds []uint32
	known := footingOf(l)
	for world := range uint32(1) << len(l) {
		if known.allows(world, f) {
			worlds = append(worlds, world)
		}
	}
	if len(worlds) == 0 {
		return nil, api.ErrVoid
	}
	return worlds, api.OK
}

// Surely returns the feet that touch in all worlds, and those that touch in
// none.
func Surely(l []Touch, f int) (on, off uint32, e api.Errno) {
	worlds, e := Worlds(l, f)
	if e != api.OK {
		return 0, 0, e
	}
	on = uint32(1)<<len(l) - 1
	off = on
	for _, world := range worlds {
		on &= world
		off &^= world
	}
	return on, off, api.OK
}
