package exact_test

import (
	"math/big"
	"strings"
	"testing"

	"amble/api"
	"amble/exact"
)

// The tests call package exact only through what it exports. What they expect
// is written out, found by trying out, or computed by package math/big.

// num returns the number of a text.
func num(s string) exact.Q {
	q, e := exact.Parse(s)
	if e != api.OK {
		panic("not a number: " + s)
	}
	return q
}

// nums returns the numbers of texts with blanks between them.
func nums(s string) []exact.Q {
	var l []exact.Q
	for _, word := range strings.Fields(s) {
		l = append(l, num(word))
	}
	return l
}

// mat returns the matrix of the texts of its rows.
func mat(rows ...string) exact.Mat {
	m := exact.Mat{}
	for _, row := range rows {
		m = append(m, nums(row))
	}
	return m
}

func listText(l []exact.Q) string {
	var words []string
	for _, q := range l {
		words = append(words, q.Text())
	}
	return strings.Join(words, " ")
}

// matText returns the rows of a matrix, each in brackets.
func matText(m exact.Mat) string {
	text := ""
	for _, row := range m {
		text += "[" + listText(row) + "]"
	}
	return text
}

func pointText(p exact.Point) string { return listText([]exact.Q{p.X, p.Z}) }

func rotText(r exact.Rot) string { return listText([]exact.Q{r.C, r.S}) }

func surdText(s exact.Surd) string { return listText([]exact.Q{s.A, s.B, s.D}) }

func surdsText(l []exact.Surd) string {
	text := ""
	for _, s := range l {
		text += "[" + surdText(s) + "]"
	}
	return text
}

// surd returns the number with a root of the texts of A, B and D.
func surd(s string) exact.Surd {
	l := nums(s)
	return exact.Surd{A: l[0], B: l[1], D: l[2]}
}

func point(s string) exact.Point {
	l := nums(s)
	return exact.Point{X: l[0], Z: l[1]}
}

func rot(s string) exact.Rot {
	l := nums(s)
	return exact.Rot{C: l[0], S: l[1]}
}

// expect compares what a call gave with what it should give.
func expect(t *testing.T, call, got, want string) {
	t.Helper()
	if got != want {
		t.Errorf("%s: got %s, want %s", call, got, want)
	}
}

func expectError(t *testing.T, call string, got, want api.Errno) {
	t.Helper()
	if got != want {
		t.Errorf("%s: got the error %d, want %d", call, got, want)
	}
}

// source gives numbers that look random; the same ones in each run.
type source uint64

func (s *source) next() uint64 {
	*s += 0x9e3779b97f4a7c15
	x := uint64(*s)
	x = (x ^ x>>30) * 0xbf58476d1ce4e5b9
	x = (x ^ x>>27) * 0x94d049bb133111eb
	return x ^ x>>31
}

func (s *source) below(n int) int { return int(s.next() % uint64(n)) }

// word returns a word, often one at which carrying is difficult.
func (s *source) word() uint64 {
	switch s.below(8) {
	case 0:
		return 0
	case 1:
		return 1<<64 - 1
	case 2:
		return 1 << 63
	case 3:
		return 1<<63 - 1
	case 4:
		return s.next() >> uint(s.below(64))
	}
	return s.next()
}

// integer returns an integer of at most that many words.
func (s *source) integer(words int) *big.Int {
	n := new(big.Int)
	for range s.below(words) + 1 {
		n.Lsh(n, 64).Or(n, new(big.Int).SetUint64(s.word()))
	}
	if s.below(2) == 0 {
		n.Neg(n)
	}
	return n
}

// ratio returns a fraction with a numerator and a denominator of at most that
// many words, an integer in one case of four.
func (s *source) ratio(words int) *big.Rat {
	under := new(big.Int).Abs(s.integer(words))
	if s.below(4) == 0 || under.Sign() == 0 {
		under.SetInt64(1)
	}
	return new(big.Rat).SetFrac(s.integer(words), under)
}

// small returns n/d with n from -most to most, and d from 1 to most.
func (s *source) small(most int) exact.Q {
	q, _ := exact.Of(int64(s.below(2*most+1)-most), int64(s.below(most)+1))
	return q
}

func (s *source) smallMat(rows, columns, most int) exact.Mat {
	m := make(exact.Mat, rows)
	for i := range m {
		m[i] = make([]exact.Q, columns)
		for j := range m[i] {
			if s.below(3) > 0 {
				m[i][j] = s.small(most)
			}
		}
	}
	return m
}

// ofBig returns an integer of any size, put together from parts of 32 bits.
func ofBig(n *big.Int) exact.Q {
	sum, base := exact.Int(0), exact.Int(1<<32)
	bytes := new(big.Int).Abs(n).Bytes()
	for len(bytes)%4 != 0 {
		bytes = append([]byte{0}, bytes...)
	}
	for i := 0; i < len(bytes); i += 4 {
		part := int64(bytes[i])<<24 | int64(bytes[i+1])<<16 | int64(bytes[i+2])<<8 | int64(bytes[i+3])
		sum = sum.Mul(base).Add(exact.Int(part))
	}
	if n.Sign() < 0 {
		return sum.Neg()
	}
	return sum
}

func ofRat(r *big.Rat) exact.Q {
	q, e := ofBig(r.Num()).Div(ofBig(r.Denom()))
	if e != api.OK {
		panic("division by 0")
	}
	return q
}

// ratOf returns the number of a text for package math/big.
func ratOf(q exact.Q) *big.Rat {
	r, ok := new(big.Rat).SetString(q.Text())
	if !ok {
		panic("not a number: " + q.Text())
	}
	return r
}
