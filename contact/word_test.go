package contact_test

import (
	"slices"
	"testing"

	"amble/api"
	"amble/contact"
	"amble/exact"
	"amble/hull"
)

// wedge returns a problem of two contacts that push against each other, without
// anything that their friction moves.
func wedge() contact.Problem {
	return problem("1 0 -1 0, 0 0 0 0, -1 0 1 0, 0 0 0 0", "-1 0 1 0", "1 1", "0")
}

// beam returns the problem of a body that comes down on two contacts of which
// one would do.
func beam() contact.Problem {
	return problem("1 0 1 0, 0 0 0 0, 1 0 1 0, 0 0 0 0", "-2 0 -2 0", "0 0", "0")
}

// loose returns a problem in which a contact may push as little as it likes:
// it takes away what it gives.
func loose() contact.Problem { return problem("1 1, 1 2", "0 3", "1", "0") }

// expectSolved compares what the calls that look for solutions give for a
// problem.
func expectSolved(t *testing.T, name string, x contact.Problem, words, solution string, unique bool) {
	t.Helper()
	l, e := contact.Words(x)
	expectOK(t, "Words of "+name, wordsText(l), e, words)
	o, e := contact.Solve(x)
	expectOK(t, "Solve of "+name, outcomeText(o), e, solution)
	is, e := contact.Unique(x)
	expectError(t, "Unique of "+name, e, api.OK)
	if is != unique {
		t.Error("Unique of", name, "is", is)
	}
}

func expectSpread(t *testing.T, name string, x contact.Problem, c, want string) {
	t.Helper()
	low, high, below, above, e := contact.Spread(x, nums(c))
	expectOK(t, "Spread of "+name+", "+c, spreadText(low, high, below, above), e, want)
}

// P5.3, P5.5, P5.6: problems with one contact.
func TestOneContact(t *testing.T) {
	expectSolved(t, "one that slides back", problem("1 0, 0 1", "-2 -1", "1/4", "0"), "3 ", "3[2 1/2][0 -1/2]", true)
	expectSolved(t, "one that sticks at the end of the cone", problem("1 0, 0 1", "-2 1/2", "1/4", "0"), "1 2 ", "1[2 -1/2][0 0]", true)
	expectSolved(t, "one that jumps", problem("2 0, 0 1", "-2 0", "0", "1"), "1 2 3 ", "1[2 0][2 0]", true)
	expectSolved(t, "one that grazes", problem("1 0, 0 1", "0 1", "1/4", "1/2"), "0 2 ", "0[0 0][0 1]", true)
	expectSolved(t, "one at rest with restitution", problem("1 0, 0 1", "0 0", "1/4", "1"), "0 1 2 3 ", "0[0 0][0 0]", true)
	expectSolved(t, "one that leaves without mass", problem("0 0, 0 0", "1 0", "1/4", "0"), "0 ", "0[0 0][1 0]", true)
	expectSolved(t, "one that rests without mass", problem("0 0, 0 0", "0 2", "1/4", "0"), "0 2 ", "0[0 0][0 2]", true)
	expectSpread(t, "one that slides back", problem("1 0, 0 1", "-2 -1", "1/4", "0"), "0 4", "-2 -2 true true")
	// The tangent has no mass: all of the cone will do; the least is its lower end.
	expectSolved(t, "a tangent without mass", problem("1 0, 0 0", "-1 0", "1", "0"), "1 2 3 ", "1[1 -1][0 0]", true)
	expectSolved(t, "a tangent without mass that slides", problem("1 0, 0 0", "-1 2", "1", "0"), "2 ", "2[1 -1][0 2]", true)
	// Friction that jams: without it the contact would only be pressed shut.
	expectSolved(t, "a contact that jams", problem("1 -2, -2 5", "-1 -1", "1", "0"), "1 ", "1[7 3][0 0]", true)
}

// P5.5, P5.6: several solutions, also with the same velocities after.
func TestSeveralSolutions(t *testing.T) {
	expectSolved(t, "a contact that may jam", several(), "0 1 2 ", "0[0 0][1 4]", false)
	expectSpread(t, "a contact that may jam", several(), "0 1", "0 4 true true")
	expectSpread(t, "a contact that may jam", several(), "-2 1", "0 2 true true")
	expectSpread(t, "a contact that may jam", several(), "0 -1/2", "-2 0 true true")
	expectSpread(t, "a contact that may jam", several(), "0 0", "0 0 true true")
	expectSolved(t, "a loose contact", loose(), "0 1 2 ", "0[0 0][0 3]", false)
	expectSpread(t, "a loose contact", loose(), "0 1", "0 3 true true")
	expectSpread(t, "a loose contact", loose(), "7 -1", "-3 0 true true")
	expectSpread(t, "a loose contact", loose(), "1 0", "0 0 true true")
	both := problem("1 0 0 0, 0 1 0 0, 0 0 1 2, 0 0 2 5", "-1 0 1 4", "1 1", "0")
	expectSolved(t, "a contact beside one that may jam", both, "10 11 12 ", "10[1 0 0 0][0 0 1 4]", false)
	expectSpread(t, "a contact beside one that may jam", both, "1 1 0 0", "0 0 true true")
	expectSpread(t, "a contact beside one that may jam", both, "0 0 1 0", "0 1 true true")
	expectSolved(t, "a beam", beam(), "01 02 03 10 11 12 13 20 21 22 23 30 31 32 33 ", "01[0 0 2 0][0 0 0 0]", true)
	expectSpread(t, "a beam", beam(), "1 2 3 4", "0 0 true true")
	expectSolved(t, "a wedge", wedge(), "10 11 12 13 20 21 22 23 30 31 32 33 ", "10[1 -1 0 0][0 0 0 0]", true)
	expectSpread(t, "a wedge", wedge(), "1 1 1 1", "0 0 true true")
}

// P5.3, P5.5, P5.6: no contacts, and the greatest number of them.
func TestFewAndMany(t *testing.T) {
	expectSolved(t, "no contacts", contact.Problem{}, " ", "[][]", true)
	expectSpread(t, "no contacts", contact.Problem{}, "", "0 0 true true")
	four := contact.Problem{G: unit(8, num("2")), V: nums("-2 1 1 1 -4 -8 -1 -1/8"), Mu: nums("1/4 1 1 1"), E: num("1/2")}
	expectSolved(t, "four contacts", four, "2031 ", "2031[3/2 -3/8 0 0 3 3 3/4 3/32][1 1/4 1 1 2 -2 1/2 1/16]", true)
	// All modes at each of them: what rests has all words.
	four.V = make([]exact.Q, 8)
	l, e := contact.Words(four)
	expectOK(t, "Words of four contacts at rest", wordsText(l), e, wordsText(allWords(4)))
	o, e := contact.Solve(four)
	expectOK(t, "Solve of four contacts at rest", outcomeText(o), e, "0000[0 0 0 0 0 0 0 0][0 0 0 0 0 0 0 0]")
}

// P5.3: no word has a solution.
func TestNoWord(t *testing.T) {
	l, e := contact.Words(hopeless())
	expectOK(t, "Words without solutions", wordsText(l), e, "")
	// Friction that would make the contact sink deeper.
	x := problem("1 2, 2 4", "-1 4", "1", "0")
	l, e = contact.Words(x)
	expectOK(t, "Words without solutions", wordsText(l), e, "")
	_, e = contact.Solve(x)
	expectError(t, "Solve without solutions", e, api.ErrNone)
}

// point returns a point of a polyhedron with two dimensions, or three numbers:
// where two of its rows meet, if it has a corner.
func point(p hull.Poly) []exact.Q {
	for i, r := range p.Rows {
		for _, s := range p.Rows[:i] {
			x, kernel, e := exact.Solve(exact.Mat{r.A, s.A}, []exact.Q{r.B, s.B})
			if e == api.OK && len(kernel) == 0 && hull.Has(p, x) {
				return x
			}
		}
	}
	return nil
}

// P5.3: with one contact, sets have points exactly if they have corners.
func TestWordsByCorners(t *testing.T) {
	s := source(505)
	seen := map[int]int{}
	for range 400 {
		x := s.problem(1)
		var want [][]uint8
		for _, word := range allWords(1) {
			if point(setOf(x, word)) != nil {
				want = append(want, word)
			}
		}
		got, e := contact.Words(x)
		expectOK(t, "Words of "+problemText(x), wordsText(got), e, wordsText(want))
		seen[len(got)]++
	}
	if seen[0] < 20 || seen[1] < 100 || seen[2]+seen[3] < 50 || seen[4] < 1 {
		t.Error("the numbers of words:", seen)
	}
}

// isRefuted reports whether weights show that the set of a word is void.
func isRefuted(x contact.Problem, word []uint8, weights []exact.Q) bool {
	return hull.Prove(make([]exact.Q, 2*len(x.Mu)), setOf(x, word), hull.Answer{Kind: hull.Void, Weights: weights})
}

// expectWords checks word by word which ones have points: these are solutions,
// all others are refuted.
func expectWords(t *testing.T, x contact.Problem) [][]uint8 {
	t.Helper()
	var want [][]uint8
	for _, word := range allWords(len(x.Mu)) {
		weights, e := contact.Refute(x, word)
		if e == api.OK {
			if !isRefuted(x, word, weights) {
				t.Error("Refute of", wordText(word), "does not show it for", problemText(x))
			}
			continue
		}
		expect(t, "the weights of Refute with an error", numsText(weights), "[]")
		expectError(t, "Refute of "+wordText(word), e, api.ErrNone)
		p, e := hull.Least(setOf(x, word))
		expectError(t, "a point of the word "+wordText(word), e, api.OK)
		expect(t, "the laws", faultsText(broken(x, p)), "")
		want = append(want, word)
	}
	got, e := contact.Words(x)
	expectOK(t, "Words of "+problemText(x), wordsText(got), e, wordsText(want))
	return want
}

// expectSolution compares Solve with the least point of the first word.
func expectSolution(t *testing.T, x contact.Problem, words [][]uint8) {
	t.Helper()
	got, e := contact.Solve(x)
	if len(words) == 0 {
		expectError(t, "Solve", e, api.ErrNone)
		expect(t, "Solve without solutions", outcomeText(got), outcomeText(contact.Outcome{}))
		return
	}
	p, _ := hull.Least(setOf(x, words[0]))
	expectOK(t, "Solve", outcomeText(got), e, outcomeText(contact.Outcome{Word: words[0], P: p, W: after(x, p)}))
}

// spread returns the least and the greatest value of c times the velocities
// after, over the sets of words.
func spread(t *testing.T, x contact.Problem, words [][]uint8, c []exact.Q) (low, high exact.Q) {
	t.Helper()
	var ends []exact.Q
	goal, before := times(x.G, c), dot(c, x.V)
	for _, word := range words {
		least, most, below, above, e := hull.Bounds(goal, setOf(x, word))
		if e != api.OK || !below || !above {
			t.Error("no bounds of", wordText(word))
		}
		ends = append(ends, before.Add(least), before.Add(most))
	}
	return exact.Min(ends...), exact.Max(ends...)
}

// expectSpreads compares Spread and Unique with the bounds of all words.
func expectSpreads(t *testing.T, x contact.Problem, words [][]uint8, c []exact.Q) bool {
	t.Helper()
	same := true
	for i := range x.V {
		axis := with(make([]exact.Q, len(x.V)), i, num("1"))
		low, high := spread(t, x, words, axis)
		same = same && low.Cmp(high) == 0
	}
	unique, e := contact.Unique(x)
	a, b, below, above, f := contact.Spread(x, c)
	if len(words) == 0 {
		expectError(t, "Unique", e, api.ErrNone)
		expectError(t, "Spread", f, api.ErrNone)
		if unique || below || above || a.Sign() != 0 || b.Sign() != 0 {
			t.Error("Unique and Spread without solutions")
		}
		return false
	}
	low, high := spread(t, x, words, c)
	expectOK(t, "Spread", spreadText(a, b, below, above), f, spreadText(low, high, true, true))
	expectError(t, "Unique", e, api.OK)
	if unique != same {
		t.Error("Unique of", problemText(x), "is", unique)
	}
	return unique
}

// P5.3 to P5.6, P5.8 and P5.14: all words of problems with a few contacts.
func TestWordsByProofs(t *testing.T) {
	s := source(506)
	none, unique, other := 0, 0, 0
	for i := range 300 {
		x := s.any(2)
		if i%50 == 0 {
			x = s.any(3)
		}
		words := expectWords(t, x)
		expectSolution(t, x, words)
		if expectSpreads(t, x, words, s.numbers(len(x.V))) {
			unique++
		} else if len(words) > 0 {
			other++
		} else {
			none++
		}
	}
	if none < 8 || unique < 100 || other < 12 {
		t.Error("problems without solutions, with one, with several:", none, unique, other)
	}
}

// P5.3, P5.5, P5.14: all words of a problem with four contacts.
func TestWordsOfFour(t *testing.T) {
	s := source(507)
	for range 2 {
		x := s.problem(4)
		x.G = s.form(8, 9)
		expectSolution(t, x, expectWords(t, x))
	}
}

// P5.5: the first word in order, whatever comes later.
func TestFirstWord(t *testing.T) {
	s := source(508)
	for range 60 {
		x := s.any(3)
		words, _ := contact.Words(x)
		o, e := contact.Solve(x)
		if len(words) == 0 {
			expectError(t, "Solve", e, api.ErrNone)
			continue
		}
		expectOK(t, "the word of Solve", wordText(o.Word), e, wordText(words[0]))
		if !slices.IsSortedFunc(words, slices.Compare[[]uint8]) {
			t.Error("the words are not in order:", wordsText(words))
		}
	}
}
