package exact_test

import (
	"math"
	"math/big"
	"testing"

	"amble/api"
	"amble/exact"
)

// P1.6: Surd, Roots.

const precision = 1000

// approx returns s with many more digits than the numbers of these tests need
// to be told apart.
func approx(s exact.Surd) *big.Float {
	float := func(q exact.Q) *big.Float { return new(big.Float).SetPrec(precision).SetRat(ratOf(q)) }
	root := new(big.Float).SetPrec(precision).Sqrt(float(s.D))
	return root.Mul(root, float(s.B)).Add(root, float(s.A))
}

// order returns the sign of x - y, taking for equal what is very near.
func order(x, y *big.Float) int {
	difference := new(big.Float).Sub(x, y)
	if difference.Sign() == 0 || difference.MantExp(nil) < -precision/2 {
		return 0
	}
	return difference.Sign()
}

// grid returns numbers with roots, with many equal ones among them.
func grid() []exact.Surd {
	var l []exact.Surd
	for _, a := range nums("-3 -1 -1/2 0 1 3") {
		for _, b := range nums("-2 -1 0 1/2 1 2") {
			for _, d := range nums("0 1/4 1/2 1 2 3 4 8 9/2") {
				l = append(l, exact.Surd{A: a, B: b, D: d})
			}
		}
	}
	return l
}

// undefined returns some that stand for nothing.
func undefined() []exact.Surd {
	return []exact.Surd{surd("1 1 -1"), surd("1 0 -1"), surd("0 0 -1/1000"), surd("-2 -1 -18446744073709551616")}
}

func TestSurdSign(t *testing.T) {
	for text, want := range map[string]int{
		"0 0 0": 0, "0 0 5": 0, "0 5 0": 0, "1 5 0": 1, "-1 5 0": -1, "1 0 5": 1, "-1 0 5": -1, "0 1 2": 1, "0 -1 2": -1,
		"1 1 2": 1, "-1 -1 2": -1, "-1 1 2": 1, "1 -1 2": -1, "2 -1 2": 1, "-2 1 2": -1, "2 -1 4": 0, "-2 1 4": 0, "-3/2 1 9/4": 0,
		"665857 -470832 2": 1, "-665857 470832 2": -1, "1607521 -1136689 2": -1, "1/3 -1/3 1": 0,
		"18446744073709551616 -1 340282366920938463463374607431768211456": 0,
		"18446744073709551616 -1 340282366920938463463374607431768211455": 1,
		"18446744073709551616 -1 340282366920938463463374607431768211457": -1,
	} {
		got, e := surd(text).Sign()
		expectError(t, "Sign of "+text, e, api.OK)
		if got != want {
			t.Errorf("Sign of %s: got %d, want %d", text, got, want)
		}
	}
	for _, s := range grid() {
		if got, _ := s.Sign(); got != order(approx(s), new(big.Float)) {
			t.Error("Sign of", surdText(s), got)
		}
	}
}

func TestSurdCmp(t *testing.T) {
	l := grid()
	values := make([]*big.Float, len(l))
	for i, s := range l {
		values[i] = approx(s)
	}
	for i, s := range l {
		for j, u := range l {
			got, e := s.Cmp(u)
			if want := order(values[i], values[j]); got != want || e != api.OK {
				t.Fatalf("Cmp of %s and %s: got %d, %v, want %d", surdText(s), surdText(u), got, e, want)
			}
		}
	}
}

func TestSurdCmpOfCloseNumbers(t *testing.T) {
	for _, c := range []struct {
		s, u string
		want int
	}{
		{"0 1 8", "0 2 2", 0}, {"1 1 8", "1 2 2", 0}, {"0 1 8", "1/1000000 2 2", -1}, {"0 1 1/2", "0 1/2 2", 0},
		{"0 1 2", "-1000000 1 1000002828429", 1}, {"0 1 2", "-1000000 1 1000002828430", -1}, {"3 0 7", "1 1 4", 0}, {"5 -1 4", "1 1 4", 0}, {"0 1 2", "665857/470832 0 0", -1},
		{"0 1 2", "1607521/1136689 0 0", 1}, {"0 -1 2", "-665857/470832 0 0", 1}, {"0 1 10", "0 1 1000001/100000", -1},
		{"1 1 5", "0 2 29/11", -1}, {"1 1 5", "0 2 131/50", -1}, {"1 1 5", "0 2 2618/1000", 1}, {"5/2 1 3", "5/2 -1 3", 1},
		{"0 1 1000000000000000000000000000001", "1 1 1000000000000000000000000000000", -1},
		{"0 1 1000000000000000000000000000001", "0 1 1000000000000000000000000000000", 1},
		{"1 1 2", "0 1 3", 1}, {"0 1 3", "1 1 2", -1}, {"1 -1 2", "0 -1 3", 1}, {"2 -1 2", "2 -1 3", 1}, {"-1 1 6", "0 1 2", 1},
	} {
		for sign, signs := range map[int][2]exact.Surd{c.want: {surd(c.s), surd(c.u)}, -c.want: {surd(c.u), surd(c.s)}} {
			got, e := signs[0].Cmp(signs[1])
			expectError(t, "Cmp", e, api.OK)
			if got != sign {
				t.Errorf("Cmp of %s and %s: got %d, want %d", surdText(signs[0]), surdText(signs[1]), got, sign)
			}
		}
	}
}

func TestSurdNormal(t *testing.T) {
	for text, want := range map[string]string{
		"1 0 5": "1 0 0", "1 2 0": "1 0 0", "0 0 0": "0 0 0", "1 2 9": "7 0 0", "1 -2 9": "-5 0 0", "1 2 1/4": "2 0 0", "1/2 3 4/9": "5/2 0 0",
		"0 1 8": "0 1 8", "0 1 2": "0 1 2", "0 3 1/2": "0 3/2 2", "1 1 3/4": "1 1/4 12", "1 -1 2/3": "1 -1/3 6", "5 7 12": "5 7 12",
		"0 1 4/3": "0 1/3 12", "0 1 3/8": "0 1/8 24", "-1/2 -2/3 5/7": "-1/2 -2/21 35", "0 0 7/3": "0 0 0",
		"0 1 340282366920938463463374607431768211456":   "18446744073709551616 0 0",
		"0 1 340282366920938463463374607431768211457":   "0 1 340282366920938463463374607431768211457",
		"0 1 1/340282366920938463463374607431768211456": "1/18446744073709551616 0 0",
	} {
		got, e := surd(text).Normal()
		expectError(t, "Normal of "+text, e, api.OK)
		expect(t, "Normal of "+text, surdText(got), want)
	}
	for _, s := range grid() {
		n, e := s.Normal()
		expectError(t, "Normal", e, api.OK)
		if c, _ := n.Cmp(s); c != 0 {
			t.Error("Normal changes the value of", surdText(s), surdText(n))
		}
	}
}

func TestSurdEnclose(t *testing.T) {
	for _, c := range []struct {
		text      string
		k         int
		low, high string
	}{
		{"1/2 1/2 5", 3, "3/2", "13/8"}, {"1/2 -1/2 5", 3, "-5/8", "-1/2"}, {"0 1 2", 0, "1", "2"}, {"0 -1 2", 0, "-2", "-1"},
		{"0 0 0", 0, "0", "0"}, {"3 0 7", 5, "3", "3"}, {"1/3 0 0", 0, "0", "1"}, {"-1/3 0 0", 0, "-1", "0"}, {"1/3 0 0", 2, "1/4", "1/2"},
		{"1 1 4", 0, "3", "3"}, {"1 -1 4", 0, "-1", "-1"}, {"1/2 1 4", 0, "2", "3"}, {"1/2 1 4", 1, "5/2", "5/2"}, {"1/2 -1 4", 0, "-2", "-1"},
		{"1/3 1 1/9", 0, "0", "1"}, {"2/3 1 1/9", 0, "1", "1"}, {"1/3 -1 1/9", 7, "0", "0"}, {"0 1 1/4", 0, "0", "1"}, {"0 -1 1/4", 0, "-1", "0"},
		{"2 -1 2", 0, "0", "1"}, {"-2 1 2", 0, "-1", "0"}, {"3/4 -1 9/16", 64, "0", "0"}, {"7/3 1/7 2", 1, "5/2", "3"},
		{"0 1 2", 64, "26087635650665564424/18446744073709551616", "26087635650665564425/18446744073709551616"},
	} {
		low, high, e := surd(c.text).Enclose(c.k)
		expectError(t, "Enclose of "+c.text, e, api.OK)
		expect(t, "Enclose of "+c.text, low.Text()+" "+high.Text(), num(c.low).Text()+" "+num(c.high).Text())
	}
}

func TestSurdEncloseByRoots(t *testing.T) {
	for _, k := range []int{0, 1, 5, 64} {
		step, _ := exact.Int(1).Div(ofBig(new(big.Int).Lsh(big.NewInt(1), uint(k))))
		for _, s := range grid() {
			low, high, e := s.Enclose(k)
			expectError(t, "Enclose", e, api.OK)
			multiple, _ := low.Div(step)
			below := order(approx(exact.Surd{A: low}), approx(s))
			above := order(approx(exact.Surd{A: high}), approx(s))
			want := low
			if below < 0 {
				want = low.Add(step)
			}
			if multiple.Den().Cmp(exact.Int(1)) != 0 || below > 0 || above < 0 || high.Cmp(want) != 0 {
				t.Error("Enclose of", surdText(s), k, low.Text(), high.Text())
			}
		}
	}
}

func TestSurdErrors(t *testing.T) {
	good := surd("1 1 2")
	for _, s := range undefined() {
		sign, e := s.Sign()
		expectError(t, "Sign of "+surdText(s), e, api.ErrNone)
		c, f := s.Cmp(good)
		expectError(t, "Cmp of "+surdText(s), f, api.ErrNone)
		d, g := good.Cmp(s)
		expectError(t, "Cmp with "+surdText(s), g, api.ErrNone)
		if sign != 0 || c != 0 || d != 0 {
			t.Error("a sign with an error:", sign, c, d)
		}
		n, h := s.Normal()
		expectError(t, "Normal of "+surdText(s), h, api.ErrNone)
		expect(t, "Normal", surdText(n), "0 0 0")
		for _, k := range []int{0, 5, 64, -1, 65} {
			low, high, i := s.Enclose(k)
			expectError(t, "Enclose of "+surdText(s), i, api.ErrNone)
			expect(t, "Enclose", low.Text()+" "+high.Text(), "0 0")
		}
	}
	for _, k := range []int{-1, 65, math.MaxInt, math.MinInt} {
		low, high, e := good.Enclose(k)
		expectError(t, "Enclose", e, api.ErrRange)
		expect(t, "Enclose", low.Text()+" "+high.Text(), "0 0")
	}
}

func TestRoots(t *testing.T) {
	for text, want := range map[string]string{
		"1 0 -2": "[0 -1/2 8][0 1/2 8]", "1 0 -4": "[-2 0 0][2 0 0]", "1 -2 1": "[1 0 0]", "0 2 1": "[-1/2 0 0]", "1 0 1": "",
		"1 -1 -1": "[1/2 -1/2 5][1/2 1/2 5]", "-1 1 1": "[1/2 -1/2 5][1/2 1/2 5]", "-1 0 2": "[0 -1/2 8][0 1/2 8]", "0 0 5": "", "0 0 -1/2": "",
		"0 5 0": "[0 0 0]", "0 -3 2": "[2/3 0 0]", "2 0 0": "[0 0 0]", "1 -3 2": "[1 0 0][2 0 0]", "-1 3 -2": "[1 0 0][2 0 0]",
		"1/2 1 1/4": "[-1 -1/2 2][-1 1/2 2]", "1/3 0 -1": "[0 -1/2 12][0 1/2 12]", "1 0 -1/2": "[0 -1/2 2][0 1/2 2]",
		"3 1 -1": "[-1/6 -1/6 13][-1/6 1/6 13]", "-3 -1 1": "[-1/6 -1/6 13][-1/6 1/6 13]", "4 0 -1/9": "[-1/6 0 0][1/6 0 0]", "1 1 1": "",
		"1 1/2 -1/3": "[-1/4 -1/24 228][-1/4 1/24 228]", "-1 0 0": "[0 0 0]", "9 6 1": "[-1/3 0 0]", "1 -1000000 1/4": "[500000 -1/2 999999999999][500000 1/2 999999999999]",
	} {
		l := nums(text)
		got, e := exact.Roots(l[0], l[1], l[2])
		expectError(t, "Roots of "+text, e, api.OK)
		expect(t, "Roots of "+text, surdsText(got), want)
	}
	got, e := exact.Roots(exact.Q{}, exact.Q{}, exact.Q{})
	expectError(t, "Roots(0, 0, 0)", e, api.ErrMany)
	expect(t, "Roots(0, 0, 0)", surdsText(got), "")
}
