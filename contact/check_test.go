package contact_test

import (
	"testing"

	"amble/api"
	"amble/contact"
	"amble/exact"
)

// P5.1: problems that are valid.
func TestCheck(t *testing.T) {
	four := contact.Problem{G: unit(8, num("1")), V: make([]exact.Q, 8), Mu: make([]exact.Q, 4), E: num("1")}
	for name, x := range map[string]contact.Problem{
		"problem 1":                     first(),
		"no contact":                    {},
		"no contact, with restitution":  {E: num("2/3")},
		"lists without numbers":         {G: exact.Mat{}, V: []exact.Q{}, Mu: []exact.Q{}},
		"four contacts":                 four,
		"a G of zeros":                  hopeless(),
		"a G that is just semidefinite": problem("1 2, 2 4", "1 2", "1", "0"),
		"a flat direction":              problem("0 0, 0 3", "1 2", "1", "0"),
		"friction 0":                    problem("1 0, 0 1", "1 2", "0", "0"),
		"much friction":                 problem("1 0, 0 1", "1 2", "1000", "0"),
		"restitution 1":                 problem("1 0, 0 1", "1 2", "1", "1"),
		"restitution 1/2":               problem("1 0, 0 1", "1 2", "1", "1/2"),
	} {
		expectError(t, "Check of "+name, contact.Check(x), api.OK)
	}
	s := source(503)
	for range 100 {
		expectError(t, "Check", contact.Check(s.problem(s.below(5))), api.OK)
	}
}

// invalid returns problems that are not valid.
func invalid() map[string]contact.Problem {
	five := contact.Problem{G: unit(10, num("1")), V: make([]exact.Q, 10), Mu: make([]exact.Q, 5)}
	two := contact.Problem{G: unit(4, num("1")), V: nums("-1 0 -1 0"), Mu: nums("1 1")}
	negative, skew, indefinite := two, two, two
	negative.Mu = nums("1 -1/9")
	skew.G = mat("1 0 0 0, 0 1 0 0, 0 0 1 1/9, 0 0 0 1")
	indefinite.G = mat("1 0 0 2, 0 1 0 0, 0 0 1 0, 2 0 0 1")
	return map[string]contact.Problem{
		"five contacts":                         five,
		"a velocity too few":                    problem("1 0, 0 1", "1", "1", "0"),
		"a velocity too many":                   problem("1 0, 0 1", "1 2 3", "1", "0"),
		"no velocities":                         problem("1 0, 0 1", "", "1", "0"),
		"a contact too few":                     problem("1 0, 0 1", "1 2", "", "0"),
		"a contact too many":                    problem("1 0, 0 1", "1 2", "1 1", "0"),
		"a row too few":                         problem("1 0", "1 2", "1", "0"),
		"a row too many":                        problem("1 0, 0 1, 0 0", "1 2", "1", "0"),
		"no rows":                               problem("", "1 2", "1", "0"),
		"a column too few":                      problem("1, 0", "1 2", "1", "0"),
		"a column too many":                     problem("1 0 0, 0 1 0", "1 2", "1", "0"),
		"rows of different lengths":             problem("1 0, 0", "1 2", "1", "0"),
		"a row without contacts":                {G: exact.Mat{nil}},
		"a G without contacts":                  {G: mat("1 0, 0 1")},
		"not symmetric":                         problem("1 1, 0 1", "1 2", "1", "0"),
		"not symmetric at the end":              skew,
		"not semidefinite":                      problem("1 2, 2 3", "1 2", "1", "0"),
		"below 0":                               problem("-1 0, 0 1", "1 2", "1", "0"),
		"below 0 at the end":                    problem("1 0, 0 -1", "1 2", "1", "0"),
		"0 in the diagonal only":                problem("0 1, 1 0", "1 2", "1", "0"),
		"mixed contacts":                        indefinite,
		"friction below 0":                      problem("1 0, 0 1", "1 2", "-1", "0"),
		"second friction below 0":               negative,
		"restitution below 0":                   problem("1 0, 0 1", "1 2", "1", "-1/100"),
		"restitution above 1":                   problem("1 0, 0 1", "1 2", "1", "101/100"),
		"restitution without contacts, above 1": {E: num("2")},
		"restitution without contacts, below 0": {E: num("-1")},
	}
}

// P5.1: problems that are not valid, for each call that gets one.
func TestInvalid(t *testing.T) {
	for name, x := range invalid() {
		expectError(t, "Check of "+name, contact.Check(x), api.ErrArg)
		p := make([]exact.Q, 2*len(x.Mu))
		for call, e := range lawErrors(x, p) {
			expectError(t, call+", "+name, e, api.ErrArg)
		}
		for call, e := range wordErrors(x, make([]uint8, len(x.Mu))) {
			expectError(t, call+", "+name, e, api.ErrArg)
		}
		for call, e := range solveErrors(x, p) {
			expectError(t, call+", "+name, e, api.ErrArg)
		}
	}
}

// wordErrors returns what the calls give that get a word.
func wordErrors(x contact.Problem, word []uint8) map[string]api.Errno {
	_, a := contact.Set(x, word)
	_, b := contact.Refute(x, word)
	return map[string]api.Errno{"Set": a, "Refute": b}
}

// solveErrors returns what the calls give that look for solutions.
func solveErrors(x contact.Problem, c []exact.Q) map[string]api.Errno {
	_, a := contact.Words(x)
	_, b := contact.Solve(x)
	_, d := contact.Unique(x)
	_, _, _, _, f := contact.Spread(x, c)
	return map[string]api.Errno{"Words": a, "Solve": b, "Unique": d, "Spread": f}
}

// P5.3, P5.4: words that are none of a problem.
func TestNoWords(t *testing.T) {
	two := contact.Problem{G: unit(4, num("1")), V: nums("-1 0 -1 0"), Mu: nums("1 1")}
	for _, word := range [][]uint8{nil, {1}, {1, 1, 1}, {4, 1}, {1, 4}, {1, 5}, {255, 1}, {1, 128}} {
		for call, e := range wordErrors(two, word) {
			expectError(t, call+" of the word "+wordText(word), e, api.ErrArg)
		}
	}
	for _, word := range [][]uint8{{0}, {4}} {
		for call, e := range wordErrors(contact.Problem{}, word) {
			expectError(t, call+" of the word "+wordText(word)+" without contacts", e, api.ErrArg)
		}
	}
	// A word that is none is no word without solutions, nor one with them.
	_, e := contact.Refute(hopeless(), []uint8{4})
	expectError(t, "Refute of no mode", e, api.ErrArg)
	_, e = contact.Refute(first(), []uint8{2, 2})
	expectError(t, "Refute of a word that is too long", e, api.ErrArg)
}

// P5.5, P5.6: no solution, and what comes before that.
func TestNoSolution(t *testing.T) {
	for call, e := range solveErrors(hopeless(), nums("1 2")) {
		want := api.ErrNone
		if call == "Words" {
			want = api.OK
		}
		expectError(t, call+" without a solution", e, want)
	}
	for _, c := range []string{"", "1", "1 2 3"} {
		_, _, _, _, e := contact.Spread(hopeless(), nums(c))
		expectError(t, "Spread of "+c+" without a solution", e, api.ErrArg)
		_, _, _, _, e = contact.Spread(first(), nums(c))
		expectError(t, "Spread of "+c, e, api.ErrArg)
	}
	wrong := hopeless()
	wrong.E = num("2")
	for call, e := range solveErrors(wrong, nums("1 2")) {
		expectError(t, call+" of a problem that is not valid, without a solution", e, api.ErrArg)
	}
	_, e := contact.Refute(first(), []uint8{contact.Forward})
	expectError(t, "Refute of a word with a point", e, api.ErrNone)
	_, e = contact.Refute(contact.Problem{}, nil)
	expectError(t, "Refute of the empty word", e, api.ErrNone)
	_, e = contact.Refute(hopeless(), []uint8{contact.Apart})
	expectError(t, "Refute of a word without a point", e, api.OK)
}
