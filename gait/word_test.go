package gait_test

import (
	"math"
	"slices"
	"strconv"
	"strings"
	"testing"

	"amble/api"
	"amble/exact"
	"amble/gait"
)

// standing is a word as lists of what the legs do, phase by phase.
type standing [][]bool

// read returns a word as lists of what eight legs do.
func read(w gait.Word) standing {
	var l standing
	for _, phase := range w {
		legs := make([]bool, 8)
		for i := range legs {
			legs[i] = phase&(1<<i) != 0
		}
		l = append(l, legs)
	}
	return l
}

// isWord reports whether a word is valid for a number of legs.
func isWord(legs int, w gait.Word) bool {
	l := read(w)
	if len(l) < 2 || len(l) > 16 {
		return false
	}
	for i, now := range l {
		next := l[0]
		if i < len(l)-1 {
			next = l[i+1]
		}
		changed := 0
		for leg := range now {
			if now[leg] && leg >= legs {
				return false
			}
			if now[leg] != next[leg] {
				changed++
			}
		}
		if changed != 1 || !slices.Contains(now, true) {
			return false
		}
	}
	return true
}

// wordError returns the error of a word.
func wordError(legs int, w gait.Word) api.Errno {
	if !slices.Contains(ints("1 2 3 4"), legs) {
		return api.ErrRange
	}
	if !isWord(legs, w) {
		return api.ErrArg
	}
	return api.OK
}

// expectWordError checks the error of all calls with a word.
func expectWordError(t *testing.T, legs int, w gait.Word, want api.Errno) {
	t.Helper()
	name := " of " + strconv.Itoa(legs) + wordText(w)
	expectError(t, "CheckWord"+name, gait.CheckWord(legs, w), want)
	_, e := gait.Events(legs, w)
	expectError(t, "Events"+name, e, want)
	_, e = gait.Duty(legs, w, 0)
	expectError(t, "Duty"+name, e, want)
	_, e = gait.Normal(legs, w)
	expectError(t, "Normal"+name, e, want)
}

// P8.1: words at the ends of what is valid, and beyond.
func TestWordErrors(t *testing.T) {
	sixteen := strings.Repeat("3 1 3 2 ", 4)
	for _, c := range []struct {
		legs int
		word string
		want api.Errno
	}{
		{2, "3 1", api.OK},
		{2, "1 3", api.OK},
		{2, "3 1 3 2", api.OK},
		{3, "3 1 3 2", api.OK},
		{4, "15 7 15 11", api.OK},
		{4, "15 14 12 8 12 14", api.OK},
		{2, sixteen, api.OK},
		{2, sixteen + "3 1", api.ErrArg},
		{2, sixteen + "3", api.ErrArg},
		{2, sixteen + sixteen, api.ErrArg},
		{2, "", api.ErrArg},
		{1, "1", api.ErrArg},
		{1, "1 1", api.ErrArg},
		{1, "1 0", api.ErrArg},
		{2, "3", api.ErrArg},
		{2, "3 3", api.ErrArg},
		{2, "3 1 1 3", api.ErrArg},
		{2, "3 1 3 3", api.ErrArg},
		{2, "1 2", api.ErrArg},
		{2, "1 0 2 3", api.ErrArg},
		{2, "0 1", api.ErrArg},
		{2, "3 1 3", api.ErrArg},
		{3, "7 6 4 5", api.OK},
		{3, "7 6 4", api.ErrArg},
		{3, "7 1 3 2", api.ErrArg},
		{2, "7 3", api.ErrArg},
		{2, "3 1 5 1", api.ErrArg},
		{3, "3 1 5 1", api.OK},
		{4, "16 17", api.ErrArg},
		{4, "128 129", api.ErrArg},
		{4, "255 127", api.ErrArg},
		{0, "3 1", api.ErrRange},
		{5, "3 1", api.ErrRange},
		{5, "", api.ErrRange},
		{-1, "", api.ErrRange},
		{math.MinInt, "3 1", api.ErrRange},
		{math.MaxInt, "3 1", api.ErrRange},
		{64, "3 1", api.ErrRange},
		{1<<32 + 2, "3 1", api.ErrRange},
	} {
		expectWordError(t, c.legs, word(c.word), c.want)
	}
}

// P8.1: all words of up to four phases of any legs.
func TestAllShortWords(t *testing.T) {
	for legs := range 7 {
		for n := range 5 {
			for code := range 1 << (4 * n) {
				var w gait.Word
				for i := range n {
					w = append(w, uint8(code>>(4*i)&15))
				}
				if got, want := gait.CheckWord(legs, w), wordError(legs, w); got != want {
					t.Fatal("CheckWord of", legs, w, got, want)
				}
			}
		}
	}
}

// P8.1: words that are altered in one phase.
func TestAlteredWords(t *testing.T) {
	s := source(810)
	wrong := 0
	for range 3000 {
		legs := 2 + s.below(3)
		w := s.word(legs, 0)
		i := s.below(len(w))
		switch s.below(3) {
		case 0:
			w[i] = uint8(s.below(1 << (legs + 1)))
		case 1:
			w = slices.Concat(w[:i], w, w[i:])
		case 2:
			w = slices.Concat(w[:i/2], w[i:])
		}
		want := wordError(legs, w)
		if want != api.OK {
			wrong++
		}
		expectWordError(t, legs, w, want)
	}
	if wrong < 500 || wrong > 2500 {
		t.Error(wrong, "words are wrong")
	}
}

// P8.1: the number of a leg comes behind the word.
func TestDutyErrors(t *testing.T) {
	for _, c := range []struct {
		legs int
		word string
		leg  int
		want api.Errno
	}{
		{2, "3 1 3 2", 0, api.OK},
		{2, "3 1 3 2", 1, api.OK},
		{2, "3 1 3 2", 2, api.ErrRange},
		{2, "3 1 3 2", -1, api.ErrRange},
		{3, "3 1 3 2", 2, api.OK},
		{4, "3 1 3 2", 3, api.OK},
		{4, "3 1 3 2", 4, api.ErrRange},
		{2, "3 1 3 2", math.MaxInt, api.ErrRange},
		{2, "3 1 3 2", math.MinInt, api.ErrRange},
		{2, "3 1 3 2", 1 << 32, api.ErrRange},
		{2, "3 1 3 3", 2, api.ErrArg},
		{2, "3 1 3 3", -1, api.ErrArg},
		{5, "3 1 3 3", 7, api.ErrRange},
	} {
		_, e := gait.Duty(c.legs, word(c.word), c.leg)
		expectError(t, "Duty of "+strconv.Itoa(c.leg)+" in "+c.word, e, c.want)
	}
}

// P8.1: words whose events, duties and normal forms are written out.
func TestWords(t *testing.T) {
	for _, c := range []struct {
		legs                        int
		word, events, duties, least string
	}{
		{2, "3 1 3 2", "-2 2 -1 1", "3/4 3/4", "1 3 2 3"},
		{2, "1 3", "2 -2", "1 1/2", "1 3"},
		{2, "3 1", "-2 2", "1 1/2", "1 3"},
		{2, "3 2 3 2", "-1 1 -1 1", "1/2 1", "2 3 2 3"},
		{3, "3 1 3 2", "-2 2 -1 1", "3/4 3/4 0", "1 3 2 3"},
		{3, "7 6 7 5 7 3", "-1 1 -2 2 -3 3", "5/6 5/6 5/6", "3 7 6 7 5 7"},
		{3, "4 5 1 3 2 6", "1 -3 2 -1 3 -2", "1/2 1/2 1/2", "1 3 2 6 4 5"},
		{4, "8 9 8 12", "1 -1 3 -3", "1/4 0 1/4 1", "8 9 8 12"},
		{4, "15 14 12 8 12 14", "-1 -2 -3 3 2 1", "1/6 1/2 5/6 1", "8 12 14 15 14 12"},
		{2, "3 1 3 1 3 2", "-2 2 -2 2 -1 1", "5/6 2/3", "1 3 1 3 2 3"},
		{2, "3 2 3 1 3 1", "-1 1 -2 2 -2 2", "5/6 2/3", "1 3 1 3 2 3"},
	} {
		w := word(c.word)
		events, e := gait.Events(c.legs, w)
		expectOK(t, "Events of "+c.word, intsText(events), e, "["+c.events+"]")
		var duties []exact.Q
		for leg := range c.legs {
			duty, e := gait.Duty(c.legs, w, leg)
			expectError(t, "Duty of "+c.word, e, api.OK)
			duties = append(duties, duty)
		}
		expect(t, "Duty of "+c.word, numsText(duties), "["+c.duties+"]")
		least, e := gait.Normal(c.legs, w)
		expectOK(t, "Normal of "+c.word, wordText(least), e, "["+c.least+"]")
	}
}

// eventOf returns the event between two phases.
func eventOf(now, next []bool) int {
	for leg := range now {
		switch {
		case !now[leg] && next[leg]:
			return leg + 1
		case now[leg] && !next[leg]:
			return -leg - 1
		}
	}
	panic("no event")
}

// isLess reports whether a word is less than another one of the same length.
func isLess(a, b gait.Word) bool {
	for i := range a {
		if a[i] != b[i] {
			return a[i] < b[i]
		}
	}
	return false
}

// P8.1: words that look random.
func TestRandomWords(t *testing.T) {
	s := source(811)
	for range 500 {
		legs := 2 + s.below(3)
		w := s.word(legs, 0)
		l := read(w)
		var events []int
		for i := range l {
			events = append(events, eventOf(l[i], l[(i+1)%len(l)]))
		}
		got, e := gait.Events(legs, w)
		expectOK(t, "Events of "+wordText(w), intsText(got), e, intsText(events))
		for leg := range legs {
			count := int64(0)
			for _, phase := range l {
				if phase[leg] {
					count++
				}
			}
			want, _ := exact.Of(count, int64(len(l)))
			duty, e := gait.Duty(legs, w, leg)
			expectOK(t, "Duty of "+wordText(w), duty.Text(), e, want.Text())
		}
		least := w
		for i := range w {
			if turned := slices.Concat(w[i:], w[:i]); isLess(turned, least) {
				least = turned
			}
		}
		normal, e := gait.Normal(legs, w)
		expectOK(t, "Normal of "+wordText(w), wordText(normal), e, wordText(least))
	}
}
