package contact_test

import (
	"slices"
	"strconv"
	"strings"
	"testing"

	"amble/api"
	"amble/contact"
	"amble/exact"
	"amble/hull"
)

// The tests call package contact through what it exports. What they expect is
// written out, or found in another way: laws by their fractions cleared, sets
// by the chapter's table of rows, void sets by their proofs, systems by what
// defines them.

// num returns the number of a text.
func num(s string) exact.Q {
	q, e := exact.Parse(s)
	if e != api.OK {
		panic("not a number: " + s)
	}
	return q
}

// nums returns the numbers of texts with blanks between them.
func nums(s string) []exact.Q {
	var l []exact.Q
	for _, word := range strings.Fields(s) {
		l = append(l, num(word))
	}
	return l
}

// mat returns the matrix of a text like "1 2, 2 5"; one without rows of an
// empty text.
func mat(s string) exact.Mat {
	var m exact.Mat
	if s == "" {
		return m
	}
	for row := range strings.SplitSeq(s, ",") {
		m = append(m, nums(row))
	}
	return m
}

// unit returns the matrix with the factor on its diagonal and 0 elsewhere.
func unit(n int, factor exact.Q) exact.Mat {
	m := make(exact.Mat, n)
	for i := range m {
		m[i] = make([]exact.Q, n)
		m[i][i] = factor
	}
	return m
}

// problem returns that of four texts.
func problem(g, v, mu, e string) contact.Problem {
	return contact.Problem{G: mat(g), V: nums(v), Mu: nums(mu), E: num(e)}
}

// first returns the problem 1 of the chapter's examples.
func first() contact.Problem { return problem("1 0, 0 1", "-2 1", "1/4", "0") }

// several returns the problem of the chapter with several solutions.
func several() contact.Problem { return problem("1 2, 2 5", "1 4", "1", "0") }

// hopeless returns the problem of the chapter without solutions.
func hopeless() contact.Problem { return problem("0 0, 0 0", "-1 0", "1/4", "0") }

func numsText(l []exact.Q) string {
	var words []string
	for _, q := range l {
		words = append(words, q.Text())
	}
	return "[" + strings.Join(words, " ") + "]"
}

func matText(m [][]exact.Q) string {
	text := ""
	for _, l := range m {
		text += numsText(l)
	}
	return text
}

func wordText(word []uint8) string {
	text := ""
	for _, mode := range word {
		text += strconv.Itoa(int(mode))
	}
	return text
}

// wordsText returns words with blanks behind them.
func wordsText(l [][]uint8) string {
	text := ""
	for _, word := range l {
		text += wordText(word) + " "
	}
	return text
}

func faultsText(l []contact.Fault) string {
	var words []string
	for _, f := range l {
		words = append(words, strconv.Itoa(f.Contact)+":"+strconv.Itoa(int(f.Law)))
	}
	return strings.Join(words, " ")
}

func polyText(p hull.Poly) string {
	text := strconv.Itoa(p.N) + ";"
	for _, r := range p.Rows {
		text += numsText(r.A) + r.B.Text() + ";"
	}
	return text
}

func problemText(x contact.Problem) string {
	return matText(x.G) + numsText(x.V) + numsText(x.Mu) + x.E.Text()
}

func outcomeText(o contact.Outcome) string {
	return wordText(o.Word) + numsText(o.P) + numsText(o.W)
}

func systemText(s contact.System) string {
	return problemText(s.Problem) + "|" + numsText(s.Free) + "|" + matText(s.Lift)
}

func spreadText(low, high exact.Q, below, above bool) string {
	return low.Text() + " " + high.Text() + " " + strconv.FormatBool(below) + " " + strconv.FormatBool(above)
}

// expect compares what a call gave with what it should give.
func expect(t *testing.T, call, got, want string) {
	t.Helper()
	if got != want {
		t.Errorf("%s: got %s, want %s", call, got, want)
	}
}

func expectError(t *testing.T, call string, got, want api.Errno) {
	t.Helper()
	if got != want {
		t.Errorf("%s: got the error %d, want %d", call, got, want)
	}
}

// expectOK compares what a call gave that should have no error.
func expectOK(t *testing.T, call, got string, e api.Errno, want string) {
	t.Helper()
	expectError(t, call, e, api.OK)
	expect(t, call, got, want)
}

// dot returns the sum of the products of two lists.
func dot(a, b []exact.Q) exact.Q {
	var sum exact.Q
	for i := range a {
		sum = sum.Add(a[i].Mul(b[i]))
	}
	return sum
}

// times returns the products of the rows and a list.
func times(rows [][]exact.Q, x []exact.Q) []exact.Q {
	var l []exact.Q
	for _, row := range rows {
		l = append(l, dot(row, x))
	}
	return l
}

// mixed returns k times a plus m times b.
func mixed(k exact.Q, a []exact.Q, m exact.Q, b []exact.Q) []exact.Q {
	var l []exact.Q
	for i := range a {
		l = append(l, k.Mul(a[i]).Add(m.Mul(b[i])))
	}
	return l
}

func sum(a, b []exact.Q) []exact.Q { return mixed(num("1"), a, num("1"), b) }

func scaled(k exact.Q, l []exact.Q) []exact.Q { return mixed(k, l, exact.Q{}, l) }

func scaledMat(k exact.Q, m exact.Mat) exact.Mat {
	var l exact.Mat
	for _, row := range m {
		l = append(l, scaled(k, row))
	}
	return l
}

// allWords returns all words of some contacts, in order.
func allWords(contacts int) [][]uint8 {
	if contacts == 0 {
		return [][]uint8{{}}
	}
	var l [][]uint8
	for _, word := range allWords(contacts - 1) {
		for mode := range uint8(4) {
			l = append(l, append(slices.Clone(word), mode))
		}
	}
	return l
}

// source gives numbers that look random; the same ones in each run.
type source uint64

func (s *source) next() uint64 {
	*s += 0x9e3779b97f4a7c15
	x := uint64(*s)
	x = (x ^ x>>30) * 0xbf58476d1ce4e5b9
	x = (x ^ x>>27) * 0x94d049bb133111eb
	return x ^ x>>31
}

func (s *source) below(n int) int { return int(s.next() % uint64(n)) }

// small returns an integer from -most to most.
func (s *source) small(most int) exact.Q { return exact.Int(int64(s.below(2*most+1) - most)) }

// number returns a number from -5 to 5, often an integer.
func (s *source) number() exact.Q {
	under := int64(1)
	if s.below(2) == 0 {
		under = int64(2 + s.below(4))
	}
	q, _ := exact.Of(int64(s.below(int(10*under+1)))-5*under, under)
	return q
}

// positive returns a number above 0.
func (s *source) positive() exact.Q { return s.number().Abs().Add(num("1/7")) }

func (s *source) numbers(n int) []exact.Q {
	l := make([]exact.Q, n)
	for i := range l {
		l[i] = s.number()
	}
	return l
}

func (s *source) matrix(rows, columns int) exact.Mat {
	m := make(exact.Mat, rows)
	for i := range m {
		m[i] = s.numbers(columns)
	}
	return m
}

// form returns the matrix of the products of the columns of another one with
// so many rows: symmetric and semidefinite.
func (s *source) form(n, rank int) exact.Mat {
	columns := make(exact.Mat, n)
	for i := range columns {
		for range rank {
			columns[i] = append(columns[i], s.small(3))
		}
	}
	g := make(exact.Mat, n)
	for i := range g {
		g[i] = times(columns, columns[i])
	}
	return g
}

// restitution returns a number from 0 to 1, often one of the ends.
func (s *source) restitution() exact.Q {
	return nums("0 0 1 1/2 1/3 3/4")[s.below(6)]
}

// friction returns a number that is not below 0, now and then 0.
func (s *source) friction() exact.Q {
	return nums("0 1/4 1 1/2 2 1")[s.below(6)]
}

// problem returns any valid problem with so many contacts.
func (s *source) problem(contacts int) contact.Problem {
	n := 2 * contacts
	x := contact.Problem{G: s.form(n, s.below(n+2)), E: s.restitution()}
	for range n {
		x.V = append(x.V, s.small(4))
	}
	for range contacts {
		x.Mu = append(x.Mu, s.friction())
	}
	return x
}

// leaving returns a valid problem in which contacts leave, with much friction:
// often with several solutions, as they may jam instead.
func (s *source) leaving(contacts int) contact.Problem {
	x := s.problem(contacts)
	x.G = s.form(2*contacts, 1+s.below(2*contacts))
	for i := range x.Mu {
		x.Mu[i] = exact.Int(int64(1 + s.below(3)))
		x.V[2*i] = s.small(2).Abs()
	}
	return x
}

// any returns a valid problem with at most so many contacts.
func (s *source) any(most int) contact.Problem {
	if s.below(2) == 0 {
		return s.leaving(1 + s.below(most))
	}
	return s.problem(s.below(most + 1))
}

// word returns any word of so many contacts.
func (s *source) word(contacts int) []uint8 {
	word := make([]uint8, contacts)
	for i := range word {
		word[i] = uint8(s.below(4))
	}
	return word
}

// parts are those of which a system is assembled.
type parts struct {
	m, b, j exact.Mat
	v, mu   []exact.Q
	e       exact.Q
}

func (p parts) assemble() (contact.System, api.Errno) {
	return contact.Assemble(p.m, p.b, p.j, p.v, p.mu, p.e)
}

// parts returns those of any system with n velocities; some of its bilateral
// rows may depend on others.
func (s *source) parts(n, bonds, contacts int) parts {
	p := parts{m: s.form(n, n+1), v: s.numbers(n), e: s.restitution()}
	for i := range p.m {
		p.m[i][i] = p.m[i][i].Add(num("1/2"))
	}
	for range bonds {
		row := s.numbers(n)
		if len(p.b) > 1 && s.below(3) == 0 {
			row = mixed(s.number(), p.b[0], s.number(), p.b[1])
		}
		p.b = append(p.b, row)
	}
	for range 2 * contacts {
		p.j = append(p.j, s.numbers(n))
	}
	for range contacts {
		p.mu = append(p.mu, s.friction())
	}
	return p
}

// with returns a copy of a list in which one element is another one.
func with[T any](l []T, i int, x T) []T {
	l = slices.Clone(l)
	l[i] = x
	return l
}
