package sense_test

import (
	"math"
	"strconv"
	"testing"

	"amble/api"
	"amble/sense"
)

func expectWorlds(t *testing.T, s string, f int, want string, on, off uint32) {
	t.Helper()
	got, e := sense.Worlds(touches(s), f)
	expectOK(t, "Worlds of "+s, masksText(got), e, "["+want+"]")
	a, b, e := sense.Surely(touches(s), f)
	expectOK(t, "Surely of "+s, maskText(a)+" "+maskText(b), e, maskText(on)+" "+maskText(off))
}

func expectNoWorld(t *testing.T, l []sense.Touch, f int, want api.Errno) {
	t.Helper()
	got, e := sense.Worlds(l, f)
	expectError(t, "Worlds of "+touchesText(l), e, want)
	expect(t, "Worlds with an error", masksText(got), "[]")
	on, off, e := sense.Surely(l, f)
	expectError(t, "Surely of "+touchesText(l), e, want)
	expect(t, "Surely with an error", maskText(on)+" "+maskText(off), "0 0")
}

// P10.7: all worlds, and what is the same in all of them.
func TestWorlds(t *testing.T) {
	three := "-1 0 no, 1 2 yes, -1 1 yes"
	expectWorlds(t, three, 2, "5", 5, 2)
	expectWorlds(t, three, 3, "1 5", 1, 2)
	expectWorlds(t, three, math.MaxInt, "1 5", 1, 2)
	expectNoWorld(t, touches(three), 1, api.ErrVoid)
	expectNoWorld(t, touches(three), 0, api.ErrVoid)
	expectWorlds(t, "", 0, "0", 0, 0)
	expectWorlds(t, "", 7, "0", 0, 0)
	expectWorlds(t, "-1 1 yes, -1 1 no", 0, "1", 1, 2)
	expectWorlds(t, "-1 1 yes, -1 1 no", 1, "0 1 3", 0, 0)
	expectWorlds(t, "-1 1 yes, -1 1 no", 2, "0 1 2 3", 0, 0)
}

// Gaps that begin or end at 0: a foot touches at 0 and below, and only there.
func TestWorldsOfGapsAt0(t *testing.T) {
	expectWorlds(t, "0 0 yes", 0, "1", 1, 0)
	expectNoWorld(t, touches("0 0 no"), 0, api.ErrVoid)
	expectWorlds(t, "0 0 no", 1, "1", 1, 0)
	expectWorlds(t, "-1 0 no", 1, "1", 1, 0)
	expectWorlds(t, "0 1 no", 0, "0", 0, 1)
	expectWorlds(t, "0 1 yes", 0, "1", 1, 0)
	expectWorlds(t, "0 1 yes", 1, "0 1", 0, 0)
	expectWorlds(t, "1/1000 1 yes", 1, "0", 0, 1)
	expectNoWorld(t, touches("1/1000 1 yes"), 0, api.ErrVoid)
	expectWorlds(t, "-2 -1 yes, -2 -1/1000 no", 1, "3", 3, 0)
}

func TestWorldsErrors(t *testing.T) {
	wrong := touches("1 0 yes")[0]
	many := times(12, touches("-1 -1 yes")[0])
	got, e := sense.Worlds(many, 0)
	expectOK(t, "Worlds of 12 feet", masksText(got), e, "[4095]")
	expectNoWorld(t, append(many, wrong), -1, api.ErrLimit)
	expectNoWorld(t, with(many, 11, wrong), -1, api.ErrArg)
	expectNoWorld(t, []sense.Touch{wrong}, 0, api.ErrArg)
	for _, f := range []int{-1, math.MinInt} {
		expectNoWorld(t, many, f, api.ErrRange)
		expectNoWorld(t, nil, f, api.ErrRange)
		expectNoWorld(t, touches("0 0 no"), f, api.ErrRange)
	}
	free := times(12, touches("-1 1 no")[0])
	got, e = sense.Worlds(free, 12)
	expectOK(t, "Worlds of 12 feet that may all touch", strconv.Itoa(len(got)), e, "4096")
	on, off, e := sense.Surely(free, 0)
	expectOK(t, "Surely of 12 feet that say no", maskText(on)+" "+maskText(off), e, "0 4095")
}

// isWorld reports whether a set of feet is a world, by the words of the chapter.
func isWorld(l []sense.Touch, f int, touching []bool) bool {
	wrong := 0
	for i, t := range l {
		if touching[i] && t.Gap.Low.Sign() > 0 || !touching[i] && t.Gap.High.Sign() <= 0 {
			return false
		}
		if t.Says != touching[i] {
			wrong++
		}
	}
	return wrong <= f
}

// P10.7, for feet that look random.
func TestWorldsOfAnyFeet(t *testing.T) {
	s := source(1070)
	found, void := 0, 0
	for range 400 {
		l := s.touches(s.below(7))
		f := s.below(len(l) + 2)
		var want []uint32
		always, never := make([]bool, len(l)), make([]bool, len(l))
		for i := range l {
			always[i], never[i] = true, true
		}
		for set := range uint32(1) << len(l) {
			touching := make([]bool, len(l))
			for i := range l {
				touching[i] = set/(1<<i)%2 == 1
			}
			if !isWorld(l, f, touching) {
				continue
			}
			want = append(want, set)
			for i, is := range touching {
				always[i], never[i] = always[i] && is, never[i] && !is
			}
		}
		if len(want) == 0 {
			void++
			expectNoWorld(t, l, f, api.ErrVoid)
			continue
		}
		found++
		got, e := sense.Worlds(l, f)
		expectOK(t, "Worlds of "+touchesText(l), masksText(got), e, masksText(want))
		var on, off uint32
		for i := range l {
			if always[i] {
				on += 1 << i
			}
			if never[i] {
				off += 1 << i
			}
		}
		a, b, e := sense.Surely(l, f)
		expectOK(t, "Surely of "+touchesText(l), maskText(a)+" "+maskText(b), e, maskText(on)+" "+maskText(off))
	}
	if found < 150 || void < 30 {
		t.Error("only", found, "times worlds,", void, "times none")
	}
}
