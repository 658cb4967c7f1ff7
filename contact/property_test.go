package contact_test

import (
	"slices"
	"testing"

	"amble/api"
	"amble/contact"
	"amble/exact"
	"amble/hull"
)

// The properties of the chapter, for problems that look random.

// inSomeSet reports whether impulses are a point of the set of some word.
func inSomeSet(t *testing.T, x contact.Problem, p []exact.Q) bool {
	t.Helper()
	for _, word := range allWords(len(x.Mu)) {
		set, e := contact.Set(x, word)
		expectError(t, "Set", e, api.OK)
		if hull.Has(set, p) {
			return true
		}
	}
	return false
}

// solutions returns some solutions: of each word the least, and one that lies
// far in any direction.
func (s *source) solutions(t *testing.T, x contact.Problem) [][]exact.Q {
	t.Helper()
	words, e := contact.Words(x)
	expectError(t, "Words", e, api.OK)
	var all [][]exact.Q
	for _, word := range words {
		set := setOf(x, word)
		least, e := hull.Least(set)
		expectError(t, "Least of the set of a word", e, api.OK)
		answer, e := hull.Maximize(s.numbers(set.N), set)
		expectError(t, "Maximize over the set of a word", e, api.OK)
		far := answer.Point
		if answer.Kind == hull.Unbounded {
			far = sum(far, answer.Ray)
		}
		half := num("1/2")
		all = append(all, least, far, mixed(half, least, half, far))
	}
	return all
}

// P5.8: impulses keep all laws exactly if they are in the set of some word.
func TestSolutions(t *testing.T) {
	s := source(510)
	right, wrong := 0, 0
	for range 80 {
		x := s.any(2)
		tries := s.solutions(t, x)
		for _, p := range tries {
			faults, e := contact.Broken(x, p)
			expectOK(t, "Broken of a solution of "+problemText(x), faultsText(faults), e, "")
			if len(p) > 0 {
				i := s.below(len(p))
				tries = append(tries, with(p, i, s.number()), with(p, i, exact.Q{}))
			}
		}
		tries = append(tries, s.numbers(len(x.V)), make([]exact.Q, len(x.V)))
		for _, p := range tries {
			faults, e := contact.Broken(x, p)
			expectError(t, "Broken", e, api.OK)
			if is := inSomeSet(t, x, p); is != (len(faults) == 0) {
				t.Error("in a set:", is, "and broken:", faultsText(faults), "for", problemText(x), numsText(p))
			} else if is {
				right++
			} else {
				wrong++
			}
		}
		if o, e := contact.Solve(x); e == api.OK {
			faults, e := contact.Broken(x, o.P)
			expectOK(t, "Broken of Solve", faultsText(faults), e, "")
			set, _ := contact.Set(x, o.Word)
			if !hull.Has(set, o.P) {
				t.Error("Solve gives no point of its word's set")
			}
		}
	}
	if right < 200 || wrong < 100 {
		t.Error("solutions and others:", right, wrong)
	}
}

// energy returns the kinetic energy of velocities.
func energy(m exact.Mat, w []exact.Q) exact.Q {
	half, _ := dot(w, times(m, w)).Div(num("2"))
	return half
}

// P5.9: no solution adds energy.
func TestEnergy(t *testing.T) {
	s := source(511)
	lost := 0
	for range 300 {
		x := s.any(2)
		for _, p := range s.solutions(t, x) {
			work, e := contact.Work(x, p)
			expectError(t, "Work", e, api.OK)
			if work.Sign() > 0 {
				t.Error("the work", work.Text(), "of", numsText(p), "for", problemText(x))
			} else if work.Sign() < 0 {
				lost++
			}
		}
	}
	if lost < 100 {
		t.Error("only", lost, "solutions lose energy")
	}
}

// P5.9: in a system the work is what the velocities gain, and no solution
// breaks the bilateral rows.
func TestEnergyOfSystems(t *testing.T) {
	s := source(512)
	solved := 0
	for range 80 {
		contacts := 1 + s.below(2)
		p := s.parts(2+s.below(4), s.below(3), contacts)
		system, e := p.assemble()
		expectError(t, "Assemble", e, api.OK)
		free := energy(p.m, system.Free)
		check := func(impulses []exact.Q) exact.Q {
			w, e := contact.Speeds(system, impulses)
			expectError(t, "Speeds", e, api.OK)
			work, e := contact.Work(system.Problem, impulses)
			expectOK(t, "Work", work.Text(), e, energy(p.m, w).Sub(free).Text())
			for _, row := range p.b {
				expect(t, "a bilateral row of Speeds", dot(row, w).Text(), "0")
			}
			after, e := contact.After(system.Problem, impulses)
			expectOK(t, "After", numsText(after), e, numsText(times(p.j, w)))
			return work
		}
		check(s.numbers(2 * contacts))
		if o, e := contact.Solve(system.Problem); e == api.OK {
			solved++
			if check(o.P).Sign() > 0 {
				t.Error("the work of a solution is above 0")
			}
		}
	}
	if solved < 60 {
		t.Error("only", solved, "systems with a solution")
	}
}

// P5.10: a blow on a single mass.
func TestSingleBlow(t *testing.T) {
	s := source(513)
	for range 200 {
		x := contact.Problem{G: unit(2, s.positive()), V: []exact.Q{s.positive().Neg(), s.number()}, Mu: []exact.Q{s.friction()}, E: s.restitution()}
		tries := s.solutions(t, x)
		o, e := contact.Solve(x)
		expectError(t, "Solve", e, api.OK)
		for _, p := range append(tries, o.P) {
			w, e := contact.After(x, p)
			expectOK(t, "the normal velocity after a blow", w[0].Text(), e, x.E.Mul(x.V[0]).Neg().Text())
			if x.Mu[0].Sign() == 0 {
				expect(t, "the tangential velocity without friction", w[1].Text(), x.V[1].Text())
			}
		}
	}
}

// outcome returns what Solve gives, or nothing.
func outcome(x contact.Problem) contact.Outcome {
	o, _ := contact.Solve(x)
	return o
}

// P5.11: velocities that are multiplied, and a G that is divided.
func TestScaled(t *testing.T) {
	s := source(514)
	for range 60 {
		x := s.any(2)
		k := s.positive()
		under, _ := num("1").Div(k)
		words, e := contact.Words(x)
		expectError(t, "Words", e, api.OK)
		faster, lighter := x, x
		faster.V = scaled(k, x.V)
		lighter.G = scaledMat(under, x.G)
		for i, changed := range []contact.Problem{faster, lighter} {
			same, e := contact.Words(changed)
			expectOK(t, "Words, scaled", wordsText(same), e, wordsText(words))
			want := outcome(x)
			if want.P = scaled(k, want.P); i == 0 {
				want.W = scaled(k, want.W)
			}
			expect(t, "Solve, scaled", outcomeText(outcome(changed)), outcomeText(want))
			for _, p := range s.solutions(t, x) {
				faults, e := contact.Broken(changed, scaled(k, p))
				expectOK(t, "Broken of a solution, scaled", faultsText(faults), e, "")
			}
		}
	}
}

// flipped returns a list with the signs of its tangential numbers changed.
func flipped(l []exact.Q) []exact.Q {
	l = slices.Clone(l)
	for i := 1; i < len(l); i += 2 {
		l[i] = l[i].Neg()
	}
	return l
}

// mirror returns the problem in the mirror.
func mirror(x contact.Problem) contact.Problem {
	var g exact.Mat
	for i, row := range x.G {
		row = flipped(row)
		if i%2 == 1 {
			row = scaled(num("-1"), row)
		}
		g = append(g, row)
	}
	x.G, x.V = g, flipped(x.V)
	return x
}

// changed returns words that are changed one by one, in order.
func changed(words [][]uint8, change func([]uint8) []uint8) [][]uint8 {
	var l [][]uint8
	for _, word := range words {
		l = append(l, change(slices.Clone(word)))
	}
	slices.SortFunc(l, slices.Compare[[]uint8])
	return l
}

// expectSolutions checks that solutions, changed, are those of another problem.
func expectSolutions(t *testing.T, s *source, x, other contact.Problem, change func([]exact.Q) []exact.Q) {
	t.Helper()
	unique, e := contact.Unique(x)
	same, f := contact.Unique(other)
	if unique != same || e != f {
		t.Error("Unique of", problemText(x), "and", problemText(other), "differ")
	}
	c := s.numbers(len(x.V))
	low, high, below, above, e := contact.Spread(x, c)
	low2, high2, below2, above2, f := contact.Spread(other, change(c))
	expectError(t, "Spread", f, e)
	expect(t, "Spread", spreadText(low2, high2, below2, above2), spreadText(low, high, below, above))
	for _, p := range s.solutions(t, x) {
		faults, e := contact.Broken(other, change(p))
		expectOK(t, "Broken of a changed solution", faultsText(faults), e, "")
	}
}

// P5.12: in the mirror forward is back.
func TestMirrored(t *testing.T) {
	s := source(515)
	sliding := 0
	for range 120 {
		x := s.any(2)
		words, e := contact.Words(x)
		expectError(t, "Words", e, api.OK)
		swap := func(word []uint8) []uint8 {
			for i, mode := range word {
				if mode >= contact.Forward {
					word[i] = contact.Forward + contact.Back - mode
					sliding++
				}
			}
			return word
		}
		got, e := contact.Words(mirror(x))
		expectOK(t, "Words in the mirror", wordsText(got), e, wordsText(changed(words, swap)))
		expectSolutions(t, &s, x, mirror(x), flipped)
	}
	if sliding < 25 {
		t.Error("only", sliding, "contacts that slide")
	}
}

// exchanged returns a list with two of its elements exchanged.
func exchanged[T any](l []T, i, j int) []T {
	l = slices.Clone(l)
	l[i], l[j] = l[j], l[i]
	return l
}

// P5.13: contacts that are exchanged.
func TestRenumbered(t *testing.T) {
	s := source(516)
	for range 40 {
		x := s.leaving(2 + s.below(2))
		i, j := s.below(len(x.Mu)), s.below(len(x.Mu))
		twice := func(l []exact.Q) []exact.Q { return exchanged(exchanged(l, 2*i, 2*j), 2*i+1, 2*j+1) }
		other := contact.Problem{V: twice(x.V), Mu: exchanged(x.Mu, i, j), E: x.E}
		for _, row := range exchanged(exchanged(x.G, 2*i, 2*j), 2*i+1, 2*j+1) {
			other.G = append(other.G, twice(row))
		}
		words, e := contact.Words(x)
		expectError(t, "Words", e, api.OK)
		got, e := contact.Words(other)
		swap := func(word []uint8) []uint8 { return exchanged(word, i, j) }
		expectOK(t, "Words, renumbered", wordsText(got), e, wordsText(changed(words, swap)))
		expectSolutions(t, &s, x, other, twice)
	}
}

// P5.14: a word is refuted exactly if it is none of Words.
func TestRefuted(t *testing.T) {
	s := source(517)
	for range 60 {
		x := s.any(3)
		words, e := contact.Words(x)
		expectError(t, "Words", e, api.OK)
		word := s.word(len(x.Mu))
		set, e := contact.Set(x, word)
		expectError(t, "Set", e, api.OK)
		weights, e := contact.Refute(x, word)
		if slices.ContainsFunc(words, func(w []uint8) bool { return slices.Equal(w, word) }) {
			expectError(t, "Refute of a word that has a point", e, api.ErrNone)
			continue
		}
		expectError(t, "Refute of a word without a point", e, api.OK)
		if !hull.Prove(make([]exact.Q, set.N), set, hull.Answer{Kind: hull.Void, Weights: weights}) {
			t.Error("hull.Prove does not accept what Refute returns for", problemText(x), wordText(word))
		}
	}
}
