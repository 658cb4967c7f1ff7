package team_test

import (
	"math"
	"slices"
	"testing"

	"amble/api"
	"amble/team"
)

// P12.8, P12.12 and P12.13: the token.

// P12.8: NewRing.
func TestNewRing(t *testing.T) {
	for n, want := range map[int]string{
		2: "1 0 has 0, 0 0 - 0: ",
		3: "1 0 has 0, 0 0 - 0, 0 0 - 0: ",
		6: "1 0 has 0, 0 0 - 0, 0 0 - 0, 0 0 - 0, 0 0 - 0, 0 0 - 0: ",
	} {
		r, e := team.NewRing(n)
		expectOK(t, "NewRing", ringText(r), e, want)
	}
	for _, n := range []int{1, 0, -1, 7, math.MinInt, math.MaxInt} {
		r, e := team.NewRing(n)
		expectError(t, "NewRing", e, api.ErrRange)
		expect(t, "NewRing with an error", ringText(r), ": ")
		r, codes, e := team.Play(n, acts("step 0"))
		expectFailed(t, "Play", codesText(codes), e, api.ErrRange)
		expect(t, "Play with an error", ringText(r), ": ")
	}
}

// P12.8: Do, where the ring after it is written out.
func TestDo(t *testing.T) {
	cases := []struct{ ring, act, want string }{
		// A step.
		{"1 0 has 0, 0 0 - 0", "step 0", "1 0 has 1, 0 0 - 0: "},
		{"1 0 - 0, 4 0 has 6: 0 3", "step 1", "1 0 - 0, 4 0 has 7: 0 3"},
		{"1 0 has 0, 4 0 has 6", "step 0", "1 0 has 1, 4 0 has 6: "},
		// The token is given.
		{"1 0 has 0, 0 0 - 0", "give 0", "1 2 - 0, 0 0 - 0: 1 2"},
		{"1 2 has 3, 0 0 - 0", "give 0", "1 2 - 3, 0 0 - 0: 1 2"},
		{"4 2 has 3, 0 0 - 0: 1 2, 0 0", "give 0", "4 5 - 3, 0 0 - 0: 1 2, 0 0, 1 5"},
		{"0 0 has 0, 0 0 - 0", "give 0", "0 1 - 0, 0 0 - 0: 1 1"},
		{"1 0 - 0, 2 0 - 0, 3 0 has 0", "give 2", "1 0 - 0, 2 0 - 0, 3 4 - 0: 0 4"},
		{"1 0 - 0, 2 9 has 0, 3 0 has 0", "give 1", "1 0 - 0, 2 3 - 0, 3 0 has 0: 2 3"},
		// It is given again.
		{"1 2 - 0, 0 0 - 0", "give 0", "1 2 - 0, 0 0 - 0: 1 2"},
		{"1 2 - 0, 0 0 - 0: 1 2", "give 0", "1 2 - 0, 0 0 - 0: 1 2, 1 2"},
		{"1 2 - 0, 2 7 - 5", "give 1", "1 2 - 0, 2 7 - 5: 0 7"},
		// A message is brought.
		{"1 2 - 0, 0 0 - 0: 1 2", "bring 0", "1 2 - 0, 2 0 has 0: "},
		{"1 2 - 0, 0 0 - 0: 1 2, 0 5, 1 3", "bring 1", "5 2 has 0, 0 0 - 0: 1 2, 1 3"},
		{"1 2 - 0, 0 0 - 0: 1 2, 0 5, 1 3", "bring 2", "1 2 - 0, 3 0 has 0: 1 2, 0 5"},
		{"1 2 - 0, 2 0 - 0: 1 2, 1 2", "bring 0", "1 2 - 0, 2 0 - 0: 1 2"},
		{"1 2 - 0, 2 0 has 0: 1 1", "bring 0", "1 2 - 0, 2 0 has 0: "},
		{"1 2 - 0, 2 4 has 9: 1 7", "bring 0", "1 2 - 0, 7 4 has 9: "},
		{"1 2 - 0, 0 0 - 0: 1 0", "bring 0", "1 2 - 0, 0 0 - 0: "},
		// A message is lost, or doubled.
		{"1 2 - 0, 0 0 - 0: 1 2", "lose 0", "1 2 - 0, 0 0 - 0: "},
		{"1 2 - 0, 0 0 - 0: 1 2, 0 5, 1 3", "lose 0", "1 2 - 0, 0 0 - 0: 0 5, 1 3"},
		{"1 2 - 0, 0 0 - 0: 1 2, 0 5, 1 3", "lose 1", "1 2 - 0, 0 0 - 0: 1 2, 1 3"},
		{"1 2 - 0, 0 0 - 0: 1 2, 0 5, 1 3", "lose 2", "1 2 - 0, 0 0 - 0: 1 2, 0 5"},
		{"1 2 - 0, 0 0 - 0: 1 2, 0 5", "double 0", "1 2 - 0, 0 0 - 0: 1 2, 0 5, 1 2"},
		{"1 2 - 0, 0 0 - 0: 1 2, 0 5", "double 1", "1 2 - 0, 0 0 - 0: 1 2, 0 5, 0 5"},
	}
	for _, c := range cases {
		r, e := team.Do(ring(c.ring), acts(c.act)[0])
		expectOK(t, c.act+" in "+c.ring, ringText(r), e, c.want)
	}
}

// expectUndone compares the error of an act with which no ring is given.
func expectUndone(t *testing.T, r team.Ring, a team.Act, want api.Errno) {
	t.Helper()
	before := ringText(r)
	next, e := team.Do(r, a)
	expectError(t, actText(a)+" in "+before, e, want)
	expect(t, actText(a)+" with an error", ringText(next), ": ")
	expect(t, actText(a)+" in the ring", ringText(r), before)
}

// P12.8: the errors of the acts.
func TestDoErrors(t *testing.T) {
	for _, c := range []struct {
		ring, acts string
		want       api.Errno
	}{
		{"1 0 has 0, 0 0 - 0", "step 1, give 1", api.ErrState},
		{"1 2 - 0, 0 0 - 0: 1 2", "step 0, step 1, give 1", api.ErrState},
		{"1 0 has 0, 0 0 - 0", "step 2, step -1, give 2, give -1", api.ErrRange},
		{"1 0 has 0, 0 0 - 0, 0 0 - 0", "step 3, give 3, step 9223372036854775807, give -9223372036854775808", api.ErrRange},
		{"1 0 has 0, 0 0 - 0", "bring 0, lose 0, double 0, bring -1, lose -1, double -1", api.ErrRange},
		{"1 0 has 0, 0 0 - 0: 1 2, 1 3", "bring 2, lose 2, double 2, bring -1, lose -1, double -1", api.ErrRange},
		{"1 0 has 0, 0 0 - 0: 1 2", "bring 9223372036854775807, lose -9223372036854775808, double 9223372036854775807", api.ErrRange},
		{"1 0 has 0, 0 0 - 0: 1 2", "0 0, 6 0, 7 0, 128 0, 255 0, 0 -1, 6 9", api.ErrRange},
	} {
		for _, a := range acts(c.acts) {
			expectUndone(t, ring(c.ring), a, c.want)
		}
	}
}

// wrongRings returns rings that are not well-formed.
func wrongRings() map[string]team.Ring {
	return map[string]team.Ring{
		"no member":                    {},
		"no member and a message":      ring(": 0 1"),
		"one member":                   ring("1 0 has 0"),
		"one member more than MaxTeam": {Members: times(7, team.Member{Seen: 1, Has: true})},
		"Seen below 0":                 ring("1 0 has 0, -1 0 - 0"),
		"Given below 0":                ring("1 -1 has 0, 0 0 - 0"),
		"Steps below 0":                ring("1 0 has 0, 0 0 - 0, 0 0 - -1"),
		"the least Seen":               ring("-9223372036854775808 0 has 0, 0 0 - 0"),
		"the least Given":              ring("1 -9223372036854775808 has 0, 0 0 - 0"),
		"the least Steps":              ring("1 0 has -9223372036854775808, 0 0 - 0"),
		"a message to below 0":         ring("1 0 has 0, 0 0 - 0: 1 2, -1 2"),
		"a message to nobody":          ring("1 0 has 0, 0 0 - 0: 2 2"),
		"a message to nobody of three": ring("1 0 has 0, 0 0 - 0, 0 0 - 0: 2 2, 3 2"),
		"a message with -1":            ring("1 0 has 0, 0 0 - 0: 1 -1"),
		"a message to the end of int":  ring("1 0 has 0, 0 0 - 0: 9223372036854775807 1"),
		"a message with the least":     ring("1 0 has 0, 0 0 - 0: 0 -9223372036854775808"),
	}
}

// A ring that is not well-formed comes first, whatever else is wrong.
func TestWrongRings(t *testing.T) {
	for name, r := range wrongRings() {
		_, e := team.Do(r, acts("step 0")[0])
		expectError(t, "a step in a ring with "+name, e, api.ErrArg)
		for _, a := range acts("step 1, give 0, give 9, bring 0, bring -1, lose 0, double 0, 0 0, 6 0") {
			expectUndone(t, r, a, api.ErrArg)
		}
	}
	full := team.Ring{Members: ring("1 0 has 0, 0 0 - -1").Members, Flying: times(api.MaxFlying, team.Message{})}
	expectUndone(t, full, acts("double 0")[0], api.ErrArg)
}

// P12.8: no more than MaxFlying messages.
func TestFlyingLimit(t *testing.T) {
	list := append(acts("give 0"), times(api.MaxFlying-1, acts("double 0")[0])...)
	r, codes, e := team.Play(3, list)
	expectOK(t, "Play", codesText(codes), e, codesText(make([]api.Errno, api.MaxFlying)))
	if len(r.Flying) != api.MaxFlying {
		t.Fatal("there are", len(r.Flying), "messages")
	}
	expectUndone(t, r, acts("double 0")[0], api.ErrLimit)
	expectUndone(t, r, acts("double 63")[0], api.ErrLimit)
	expectUndone(t, r, acts("give 0")[0], api.ErrLimit)
	expectUndone(t, r, acts("give 1")[0], api.ErrState)
	expectUndone(t, r, acts("give 3")[0], api.ErrRange)
	expectUndone(t, r, acts("double 64")[0], api.ErrRange)
	r, e = team.Do(r, acts("bring 63")[0])
	expectError(t, "bring of the last message", e, api.OK)
	r, e = team.Do(r, acts("give 1")[0])
	expectError(t, "give with room for one", e, api.OK)
	expect(t, "the last message", ringText(team.Ring{Flying: r.Flying[63:]}), ": 2 3")
	expectUndone(t, r, acts("give 1")[0], api.ErrLimit)
	holder := team.Ring{Members: ring("1 0 has 0, 0 0 - 0").Members, Flying: times(api.MaxFlying, team.Message{To: 1})}
	expectUndone(t, holder, acts("give 0")[0], api.ErrLimit)
	more := team.Ring{Members: holder.Members, Flying: times(api.MaxFlying+5, team.Message{To: 1, Number: 7})}
	expectUndone(t, more, acts("give 0")[0], api.ErrLimit)
	expectUndone(t, more, acts("double 68")[0], api.ErrLimit)
	next, e := team.Do(more, acts("bring 68")[0])
	expectError(t, "bring of one of too many", e, api.OK)
	if len(next.Flying) != 68 || next.Members[1].Seen != 7 {
		t.Error("bring of one of too many gives", ringText(next))
	}
}

// P12.8: who cannot give the token, as there are too many messages, keeps it.
func TestPlayWithManyMessages(t *testing.T) {
	double := acts("double 0")[0]
	list := slices.Concat(acts("give 0"), times(62, double), acts("bring 0"), times(2, double), acts("give 1, double 0, step 1, lose 0, give 1, step 1"))
	r, codes, e := team.Play(2, list)
	expectError(t, "Play", e, api.OK)
	expect(t, "the last errors", codesText(codes[66:]), "5 5 0 0 0 13")
	expect(t, "the members", ringText(team.Ring{Members: r.Members}), "1 2 - 0, 2 3 - 1: ")
}

// R5: numbers at the end of int wrap.
func TestNumbersAtTheEnd(t *testing.T) {
	const end, least = "9223372036854775807", "-9223372036854775808"
	for _, c := range []struct{ ring, act, want string }{
		{"1 0 has " + end + ", 0 0 - 0", "step 0", "1 0 has " + least + ", 0 0 - 0: "},
		{end + " 0 has 0, 0 0 - 0", "give 0", end + " " + least + " - 0, 0 0 - 0: 1 " + least},
		{"1 " + end + " - 0, 0 0 - 0", "give 0", "1 " + end + " - 0, 0 0 - 0: 1 " + end},
		{"1 0 - 0, 0 0 - 0: 1 " + end, "bring 0", "1 0 - 0, " + end + " 0 has 0: "},
		{"1 0 - 0, " + end + " 0 - 0: 1 " + end, "bring 0", "1 0 - 0, " + end + " 0 - 0: "},
	} {
		r, e := team.Do(ring(c.ring), acts(c.act)[0])
		expectOK(t, c.act+" in "+c.ring, ringText(r), e, c.want)
	}
}

// P12.8: Play.
func TestPlay(t *testing.T) {
	for _, c := range []struct {
		n           int
		acts        string
		want, codes string
	}{
		{2, "", "1 0 has 0, 0 0 - 0: ", ""},
		{3, "give 0, double 0, bring 0, bring 0, step 1, step 0", "1 2 - 0, 2 0 has 1, 0 0 - 0: ", "0 0 0 0 0 13"},
		{2, "give 1, step 1, step 0, 0 0, 6 0, lose 0, step 0", "1 0 has 2, 0 0 - 0: ", "13 13 0 3 3 3 0"},
		{2, "give 0, lose 0, give 0, lose 0, give 0, bring 0, step 1, give 1, bring 0, step 0", "3 2 has 1, 2 3 - 1: ", "0 0 0 0 0 0 0 0 0 0"},
		{2, "give 0, give 0, bring 0, give 1, bring 1, give 0, bring 0, bring 0, step 1", "3 4 - 0, 4 3 has 1: ", "0 0 0 0 0 0 0 0 0"},
		{2, "step 0, give 0, step 0, give 0, give 0, lose 1, bring 1, step 1, bring 0, step 1", "1 2 - 1, 2 0 has 2: ", "0 0 13 0 0 0 0 0 0 0"},
		{3, "give 0, bring 0, give 1, double 0, bring 0, give 2, bring 1, bring 0, step 0", "4 2 has 1, 2 3 - 0, 3 4 - 0: ", "0 0 0 0 0 0 0 0 0"},
		{6, "step 5, give 5, bring 0, step 6, give -1", "1 0 has 0, 0 0 - 0, 0 0 - 0, 0 0 - 0, 0 0 - 0, 0 0 - 0: ", "13 13 3 3 3"},
	} {
		r, codes, e := team.Play(c.n, acts(c.acts))
		expectOK(t, "Play of "+c.acts, ringText(r), e, c.want)
		expect(t, "Play of "+c.acts+": the errors", codesText(codes), c.codes)
	}
}

// P12.8: Holders.
func TestHolders(t *testing.T) {
	for text, want := range map[string]string{
		"1 0 has 0, 0 0 - 0":             "0",
		"1 0 - 0, 0 0 - 0":               "",
		"1 0 - 0, 0 0 - 0, 0 0 has 0":    "2",
		"1 0 has 0, 0 0 - 0, 0 0 has 0":  "0 2",
		"-5 -5 has -5, 0 0 has 0: 99 -1": "0 1",
		"":                               "",
		"0 0 has 0":                      "0",
		"0 0 - 0, 0 0 - 0, 0 0 - 0, 0 0 - 0, 0 0 - 0, 0 0 - 0, 0 0 has 0, 0 0 - 0, 0 0 has 0": "6 8",
	} {
		expect(t, "Holders of "+text, intsText(team.Holders(ring(text))), want)
	}
}

// done returns a ring after an act, by the chapter's table, and the act's error.
func done(r team.Ring, a team.Act) (team.Ring, api.Errno) {
	r = team.Ring{Members: slices.Clone(r.Members), Flying: slices.Clone(r.Flying)}
	isMember, isMessage := a.Who >= 0 && a.Who < len(r.Members), a.Who >= 0 && a.Who < len(r.Flying)
	isFull := len(r.Flying) > 63
	switch {
	case a.Kind == 1 && isMember && r.Members[a.Who].Has:
		r.Members[a.Who].Steps++
	case a.Kind == 1 && isMember:
		return r, 13
	case a.Kind == 2 && isMember && !r.Members[a.Who].Has && r.Members[a.Who].Given == 0:
		return r, 13
	case a.Kind == 2 && isMember && isFull, a.Kind == 5 && isMessage && isFull:
		return r, 5
	case a.Kind == 2 && isMember:
		if r.Members[a.Who].Has {
			r.Members[a.Who].Has = false
			r.Members[a.Who].Given = r.Members[a.Who].Seen + 1
		}
		next := a.Who + 1
		if next == len(r.Members) {
			next = 0
		}
		r.Flying = append(r.Flying, team.Message{To: next, Number: r.Members[a.Who].Given})
	case (a.Kind == 3 || a.Kind == 4) && isMessage:
		m := r.Flying[a.Who]
		if a.Kind == 3 && m.Number > r.Members[m.To].Seen {
			r.Members[m.To].Seen = m.Number
			r.Members[m.To].Has = true
		}
		r.Flying = append(slices.Clone(r.Flying[:a.Who]), r.Flying[a.Who+1:]...)
	case a.Kind == 5 && isMessage:
		r.Flying = append(r.Flying, r.Flying[a.Who])
	default:
		return r, 3
	}
	return r, 0
}

// P12.8 and P12.12: acts of all kinds, one after the other: they do what the
// table says; at most one member has the token; each step was made by the one
// that had it; numbers of tokens never fall.
func TestOneToken(t *testing.T) {
	s := source(1210)
	most, steps, refused := 0, 0, 0
	for range 150 {
		n := 2 + s.below(5)
		list := s.acts(n, 200)
		r, e := team.NewRing(n)
		expectError(t, "NewRing", e, api.OK)
		var codes []api.Errno
		for _, a := range list {
			next, e := team.Do(r, a)
			want, code := done(r, a)
			expectError(t, actText(a)+" in "+ringText(r), e, code)
			codes = append(codes, e)
			if e != api.OK {
				refused++
				expect(t, actText(a)+" with an error", ringText(next), ": ")
				continue
			}
			expect(t, actText(a)+" in "+ringText(r), ringText(next), ringText(want))
			expectOneToken(t, r, next)
			if a.Kind == team.DoStep {
				steps++
			}
			r = next
			most = max(most, len(r.Flying))
		}
		all, got, e := team.Play(n, list)
		expectOK(t, "Play", ringText(all), e, ringText(r))
		expect(t, "Play: the errors", codesText(got), codesText(codes))
	}
	if most < 10 || steps < 500 || refused < 1000 {
		t.Error("only", most, "messages at once,", steps, "steps, and", refused, "acts that were refused")
	}
}

// expectOneToken looks at a ring before and after an act.
func expectOneToken(t *testing.T, before, after team.Ring) {
	t.Helper()
	holders := team.Holders(after)
	if len(holders) > 1 {
		t.Error("several members have the token:", ringText(after))
	}
	for who, m := range after.Members {
		old := before.Members[who]
		if m.Has != slices.Contains(holders, who) {
			t.Error("Holders of", ringText(after), "is", intsText(holders))
		}
		if m.Seen < old.Seen || m.Given < old.Given || m.Steps < old.Steps {
			t.Error("a number of", memberText(old), "falls:", memberText(m))
		}
		if m.Steps > old.Steps && !old.Has {
			t.Error("a step was made by a member that had not the token:", memberText(old))
		}
	}
}

// P12.13: messages that are brought at once hand the token on.
func TestGoingOn(t *testing.T) {
	for n := 2; n <= api.MaxTeam; n++ {
		r, _ := team.NewRing(n)
		for i := range 3*n + 1 {
			holder := i % n
			expect(t, "Holders", intsText(team.Holders(r)), intsText([]int{holder}))
			var e api.Errno
			for _, a := range []team.Act{{Kind: team.DoStep, Who: holder}, {Kind: team.DoGive, Who: holder}, {Kind: team.DoBring}} {
				r, e = team.Do(r, a)
				expectError(t, actText(a), e, api.OK)
			}
			if len(r.Flying) != 0 || r.Members[(holder+1)%n].Seen != i+2 {
				t.Error("after", i+1, "tokens were given the ring is", ringText(r))
			}
		}
	}
}

// P12.13: also when old messages come late, doubled or out of order.
func TestGoingOnWithOldMessages(t *testing.T) {
	s := source(1211)
	moved := 0
	for range 100 {
		n := 2 + s.below(5)
		r, _, _ := team.Play(n, s.acts(n, 100))
		for range 10 {
			holders := team.Holders(r)
			if len(holders) != 1 || len(r.Flying) == api.MaxFlying {
				break
			}
			r, _ = team.Do(r, team.Act{Kind: team.DoGive, Who: holders[0]})
			r, _ = team.Do(r, team.Act{Kind: team.DoBring, Who: len(r.Flying) - 1})
			expect(t, "Holders after the token is brought", intsText(team.Holders(r)), intsText([]int{(holders[0] + 1) % n}))
			moved++
		}
	}
	if moved < 200 {
		t.Error("the token was given only", moved, "times")
	}
}
