package contact_test

import (
	"testing"

	"amble/contact"
	"amble/exact"
	"amble/hull"
)

// part is a row of the chapter's table of modes: how often it has x_n, Mu x_n,
// x_t, g·x and h·x on the left, and N and T on the right.
type part struct{ n, mu, t, g, h, N, T int64 }

// table returns the rows of a mode.
func table(mode uint8) []part {
	push := part{n: -1}
	below, above := part{g: 1, N: -1}, part{g: -1, N: 1}
	least, most := part{h: -1, T: 1}, part{h: 1, T: -1}
	switch mode {
	case 0:
		return []part{{n: 1}, {n: -1}, {t: 1}, {t: -1}, above}
	case 1:
		return []part{push, below, above, most, least, {t: 1, mu: -1}, {t: -1, mu: -1}}
	case 2:
		return []part{push, below, above, least, {t: 1, mu: 1}, {t: -1, mu: -1}}
	}
	return []part{push, below, above, most, {t: 1, mu: -1}, {t: -1, mu: 1}}
}

// row returns the row of the table for a contact.
func (p part) row(x contact.Problem, i int) hull.Row {
	size, n, t := 2*len(x.Mu), 2*i, 2*i+1
	k := exact.Int
	a := make([]exact.Q, size)
	for j := range a {
		a[j] = k(p.g).Mul(x.G[n][j]).Add(k(p.h).Mul(x.G[t][j]))
	}
	a[n] = a[n].Add(k(p.n)).Add(k(p.mu).Mul(x.Mu[i]))
	a[t] = a[t].Add(k(p.t))
	right := k(p.N).Mul(x.V[n]).Add(k(p.T).Mul(x.V[t]))
	return hull.Row{A: a, B: right.Mul(x.E.Add(k(1)))}
}

// setOf returns the set of a word.
func setOf(x contact.Problem, word []uint8) hull.Poly {
	p := hull.Poly{N: 2 * len(x.Mu)}
	for i, mode := range word {
		for _, part := range table(mode) {
			p.Rows = append(p.Rows, part.row(x, i))
		}
	}
	return p
}

// P5.3: the rows of each mode, written out.
func TestRowsOfModes(t *testing.T) {
	if contact.Apart != 0 || contact.Stick != 1 || contact.Forward != 2 || contact.Back != 3 {
		t.Error("the numbers of the modes")
	}
	x := problem("2 1, 1 3", "-5 7", "1/4", "1/2") // N -15/2, T 21/2
	for mode, want := range []string{
		"2;[1 0]0;[-1 0]0;[0 1]0;[0 -1]0;[-2 -1]-15/2;",
		"2;[-1 0]0;[2 1]15/2;[-2 -1]-15/2;[1 3]-21/2;[-1 -3]21/2;[-1/4 1]0;[-1/4 -1]0;",
		"2;[-1 0]0;[2 1]15/2;[-2 -1]-15/2;[-1 -3]21/2;[1/4 1]0;[-1/4 -1]0;",
		"2;[-1 0]0;[2 1]15/2;[-2 -1]-15/2;[1 3]-21/2;[-1/4 1]0;[1/4 -1]0;",
	} {
		p, e := contact.Set(x, []uint8{uint8(mode)})
		expectOK(t, "Set of the mode "+wordText([]uint8{uint8(mode)}), polyText(p), e, want)
	}
}

// P5.3: the rows of a word, contact by contact.
func TestRowsOfWords(t *testing.T) {
	x := contact.Problem{G: mat("2 1 0 1, 1 3 0 0, 0 0 4 -1, 1 0 -1 5"), V: nums("-1 2 -3 4"), Mu: nums("1/2 3")}
	p, e := contact.Set(x, []uint8{contact.Back, contact.Apart})
	expectOK(t, "Set of Back Apart", polyText(p), e, "4;"+
		"[-1 0 0 0]0;[2 1 0 1]1;[-2 -1 0 -1]-1;[1 3 0 0]-2;[-1/2 1 0 0]0;[1/2 -1 0 0]0;"+
		"[0 0 1 0]0;[0 0 -1 0]0;[0 0 0 1]0;[0 0 0 -1]0;[0 0 -4 1]-3;")
	p, e = contact.Set(contact.Problem{}, nil)
	expectOK(t, "Set without contacts", polyText(p), e, "0;")
	s := source(504)
	for range 200 {
		x := s.problem(s.below(5))
		word := s.word(len(x.Mu))
		p, e := contact.Set(x, word)
		expectOK(t, "Set of "+wordText(word), polyText(p), e, polyText(setOf(x, word)))
		if e := hull.Check(p); e != 0 {
			t.Error("hull does not take the set of", wordText(word), e)
		}
	}
}

// P5.3: a set does not ask whether there is a solution.
func TestSetWithoutSolution(t *testing.T) {
	for _, word := range allWords(1) {
		p, e := contact.Set(hopeless(), word)
		expectOK(t, "Set of "+wordText(word), polyText(p), e, polyText(setOf(hopeless(), word)))
	}
}
