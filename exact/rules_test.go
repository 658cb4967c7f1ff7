package exact_test

import (
	"fmt"
	"sync"
	"testing"

	"amble/api"
	"amble/exact"
)

// P1, P2 and the rules of the document that concern all calls of the layer.

// calls returns calls that return lists, as functions of the same arguments;
// each returns its lists and a text of all results.
func calls(a, b exact.Mat, l []exact.Q) map[string]func() ([][]exact.Q, string) {
	show := func(lists [][]exact.Q, more ...any) ([][]exact.Q, string) {
		return lists, matText(lists) + fmt.Sprint(more...)
	}
	return map[string]func() ([][]exact.Q, string){
		"Mul":   func() ([][]exact.Q, string) { m, e := exact.Mul(a, b); return show(m, e) },
		"Trans": func() ([][]exact.Q, string) { m, e := exact.Trans(a); return show(m, e) },
		"Apply": func() ([][]exact.Q, string) { x, e := exact.Apply(a, l); return show([][]exact.Q{x}, e) },
		"Rref":  func() ([][]exact.Q, string) { m, p, e := exact.Rref(a); return show(m, p, e) },
		"Solve": func() ([][]exact.Q, string) {
			x, k, e := exact.Solve(a, l)
			return show(append([][]exact.Q{x}, k...), e)
		},
		"Inverse": func() ([][]exact.Q, string) { m, e := exact.Inverse(b); return show(m, e) },
		"Det":     func() ([][]exact.Q, string) { d, e := exact.Det(b); return show(nil, d.Text(), e) },
		"Semidefinite": func() ([][]exact.Q, string) {
			ok, x, e := exact.Semidefinite(a)
			return show([][]exact.Q{x}, ok, e)
		},
		"Min, Max, Sum": func() ([][]exact.Q, string) {
			return show(nil, exact.Min(l...).Text(), exact.Max(l...).Text(), exact.Sum(l...).Text())
		},
	}
}

// R4 and P2: a result shares no memory with an argument, with another result,
// or with another part of its own.
func TestMemory(t *testing.T) {
	for _, c := range []struct {
		a, b exact.Mat
		l    []exact.Q
	}{
		{mat("1 2 3", "2 4 6", "3 6 -5"), mat("0 2 1", "1 0 0", "3 1 1"), nums("1 2 3")},
		{mat("1 0 0", "0 1 0", "0 0 1"), mat("1 0 0", "0 1 0", "0 0 1"), nums("5 6 7")},
		{mat("0 1 1", "1 0 1", "1 1 0"), mat("0 0 1", "0 1 0", "1 0 0"), nums("1/2 1/3 1/4")},
	} {
		arguments := func() string { return matText(c.a) + matText(c.b) + listText(c.l) }
		before := arguments()
		for name, call := range calls(c.a, c.b, c.l) {
			lists, first := call()
			for i := range lists {
				kept := matText(lists[i+1:])
				_ = append(lists[i], exact.Int(777))
				for j := range lists[i] {
					lists[i][j] = exact.Int(999)
				}
				expect(t, name+": the other lists of the result", matText(lists[i+1:]), kept)
			}
			expect(t, name+": the arguments", arguments(), before)
			if _, second := call(); name != "Semidefinite" {
				expect(t, name+": the same call again", second, first)
			}
		}
	}
}

func TestRootsAreNew(t *testing.T) {
	a, b, c := exact.Int(1), exact.Int(0), exact.Int(-2)
	l, _ := exact.Roots(a, b, c)
	for i := range l {
		l[i] = exact.Surd{}
	}
	l, _ = exact.Roots(a, b, c)
	expect(t, "Roots", surdsText(l), "[0 -1/2 8][0 1/2 8]")
}

// Arguments that share memory with each other.
func TestSharedArguments(t *testing.T) {
	m := mat("1 2", "3 4")
	square, e := exact.Mul(m, m)
	expectError(t, "Mul", e, api.OK)
	expect(t, "Mul of a matrix and itself", matText(square), "[7 10][15 22]")
	x, _, e := exact.Solve(m, m[0])
	expectError(t, "Solve", e, api.OK)
	expect(t, "Solve with its own row", listText(x), "0 1/2")
	row := nums("1 2")
	form, pivots, e := exact.Rref(exact.Mat{row, row})
	expectError(t, "Rref", e, api.OK)
	expect(t, "Rref of a row given twice", matText(form)+fmt.Sprint(pivots), "[1 2][0 0][0]")
	expect(t, "the row", listText(row), "1 2")
}

// A number is never changed, and can be used at several places at once.
func TestNumbersAreNotChanged(t *testing.T) {
	s := source(19)
	for i := range 100 {
		a, b := ofRat(s.ratio(1+i%6)), ofRat(s.ratio(1+i%6))
		before := a.Text() + " " + b.Text()
		var all sync.WaitGroup
		for range 4 {
			all.Go(func() {
				results := []exact.Q{a.Add(b), a.Sub(b), a.Mul(b), a.Neg(), a.Abs(), a.Num(), a.Den(), a.Floor(), a.Ceil(), a.Round(), exact.Min(a, b), exact.Sum(a, b, a)}
				c, _ := a.Div(b)
				d, _ := a.Near(100)
				f, _ := a.Root(10)
				for _, q := range append(results, c, d, f) {
					_ = q.Neg().Add(exact.Int(1)).Mul(b)
				}
				surd := exact.Surd{A: a, B: b, D: a.Abs()}
				surd.Sign()
				surd.Normal()
				surd.Enclose(5)
			})
		}
		all.Wait()
		expect(t, "the numbers", a.Text()+" "+b.Text(), before)
	}
}

// R3: nil and empty are the same.
func TestNilAndEmpty(t *testing.T) {
	for _, m := range []exact.Mat{nil, {}} {
		for _, l := range [][]exact.Q{nil, {}} {
			for name, call := range calls(m, m, l) {
				_, got := call()
				want := map[string]string{
					"Rref": "[] error 0", "Det": "1error 0", "Apply": "[]error 0", "Solve": "[]error 0", "Semidefinite": "[]true error 0", "Min, Max, Sum": "000",
				}[name]
				if want == "" {
					want = "error 0"
				}
				expect(t, name+" of nothing", got, want)
			}
		}
	}
	for _, m := range []exact.Mat{{nil, nil}, {{}, {}}, {nil, {}}} {
		form, pivots, e := exact.Rref(m)
		expectError(t, "Rref", e, api.OK)
		expect(t, "Rref of rows without columns", matText(form)+fmt.Sprint(pivots), "[][][]")
	}
}

// DOC.md, example 1, and the examples of the chapter.
func TestExamples(t *testing.T) {
	expect(t, "Parse(-1.250)", num("-1.250").Text(), "-5/4")
	roots, e := exact.Roots(exact.Int(1), exact.Int(0), exact.Int(-2))
	expectError(t, "Roots(1, 0, -2)", e, api.OK)
	expect(t, "Roots(1, 0, -2)", surdsText(roots), "[0 -1/2 8][0 1/2 8]")
	expect(t, "Round of 5/2", num("5/2").Round().Text(), "2")
	expect(t, "Round of -7/2", num("-7/2").Round().Text(), "-4")
	near, _ := num("355/113").Near(7)
	expect(t, "Near(7) of 355/113", near.Text(), "22/7")
	root, _ := num("2").Root(3)
	expect(t, "Root(3) of 2", root.Text(), "11/8")
	r := exact.Turn(num("1/2"))
	expect(t, "Turn(1/2)", rotText(r), "3/5 4/5")
	half, _ := r.Half()
	expect(t, "Half of Turn(1/2)", half.Text(), "1/2")
	expect(t, "Then of it and itself", rotText(r.Then(r)), "-7/25 24/25")
	x, kernel, _ := exact.Solve(mat("1 2", "2 4"), nums("3 6"))
	expect(t, "Solve", listText(x)+matText(kernel), "3 0[-2 1]")
	_, _, e = exact.Solve(mat("1 2", "2 4"), nums("3 7"))
	expectError(t, "Solve", e, api.ErrNone)
}
