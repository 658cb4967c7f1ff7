package exact_test

import (
	"math"
	"math/big"
	"strconv"
	"strings"
	"testing"

	"amble/api"
	"amble/exact"
)

// P1.1: Int, Of, Parse, Text.

func ints() []int64 {
	return []int64{0, 1, -1, 2, -2, 10, 12345, -99999, math.MaxInt32, math.MinInt32, 1 << 32, -1 << 32,
		math.MaxInt64, math.MaxInt64 - 1, math.MinInt64, math.MinInt64 + 1}
}

func TestInt(t *testing.T) {
	for _, n := range ints() {
		expect(t, "Int", exact.Int(n).Text(), strconv.FormatInt(n, 10))
	}
}

func TestOf(t *testing.T) {
	for _, n := range ints() {
		for _, d := range ints() {
			q, e := exact.Of(n, d)
			if d == 0 {
				expectError(t, "Of(n, 0)", e, api.ErrZero)
				expect(t, "Of(n, 0)", q.Text(), "0")
				continue
			}
			want := big.NewRat(1, 1).SetFrac(big.NewInt(n), big.NewInt(d))
			expectError(t, "Of", e, api.OK)
			expect(t, "Of", q.Text(), want.RatString())
		}
	}
}

func TestZeroNumber(t *testing.T) {
	var q exact.Q
	expect(t, "zero Q", q.Text(), "0")
	expect(t, "zero Q + 1", q.Add(exact.Int(1)).Text(), "1")
	if q.Cmp(exact.Int(0)) != 0 || q.Sign() != 0 {
		t.Error("the zero Q is not 0")
	}
	expect(t, "Den of zero Q", q.Den().Text(), "1")
}

func TestParse(t *testing.T) {
	long := strings.Repeat("9", 999)
	for text, want := range map[string]string{
		"0": "0", "-0": "0", "7": "7", "-7": "-7", "10": "10", "100000000000000000000": "100000000000000000000",
		"-1.250": "-5/4", "6/4": "3/2", "0.5": "1/2", "0.0": "0", "-0.0": "0", "-0.001": "-1/1000", "0.050": "1/20",
		"0/5": "0", "-0/5": "0", "-6/3": "-2", "5/1": "5", "10.00": "10", "12.75": "51/4",
		"9223372036854775807": "9223372036854775807", "9223372036854775808": "9223372036854775808",
		"-9223372036854775808": "-9223372036854775808", "18446744073709551616": "18446744073709551616",
		"18446744073709551615/18446744073709551616":       "18446744073709551615/18446744073709551616",
		"340282366920938463463374607431768211456/2":       "170141183460469231731687303715884105728",
		"10000000000000000000":                            "10000000000000000000",
		"100000000000000000000000000000000000000":         "100000000000000000000000000000000000000",
		"50000000000000000000.00000000000000000000000001": "5000000000000000000000000000000000000000000001/100000000000000000000000000",
		"-" + long: "-" + long, "1" + long: "1" + long, long: long,
	} {
		q, e := exact.Parse(text)
		expectError(t, "Parse("+text+")", e, api.OK)
		expect(t, "Parse("+text+")", q.Text(), want)
	}
}

func TestParseErrors(t *testing.T) {
	zeros := strings.Repeat("0", 999)
	for text, want := range map[string]api.Errno{
		"": api.ErrForm, "-": api.ErrForm, "01": api.ErrForm, "00": api.ErrForm, "-01": api.ErrForm, "1.": api.ErrForm,
		".5": api.ErrForm, ".": api.ErrForm, "-.5": api.ErrForm, "+1": api.ErrForm, "--1": api.ErrForm, "1-": api.ErrForm,
		" 1": api.ErrForm, "1 ": api.ErrForm, "1 /2": api.ErrForm, "1/ 2": api.ErrForm, "1\n": api.ErrForm, "1\x00": api.ErrForm,
		"a": api.ErrForm, "1a": api.ErrForm, "0x1": api.ErrForm, "1e5": api.ErrForm, "1_0": api.ErrForm, "1,5": api.ErrForm,
		"/": api.ErrForm, "/2": api.ErrForm, "1/": api.ErrForm, "1/2/3": api.ErrForm, "1/-2": api.ErrForm, "1/+2": api.ErrForm,
		"1/02": api.ErrForm, "01/2": api.ErrForm, "1/00": api.ErrForm, "1.5/2": api.ErrForm, "1/2.5": api.ErrForm,
		"1.2.3": api.ErrForm, "1.-5": api.ErrForm, "01.5": api.ErrForm, "00.5": api.ErrForm, "1.5a": api.ErrForm, "1.5 ": api.ErrForm,
		"\xd9\xa1": api.ErrForm, "1\xff": api.ErrForm, "1:": api.ErrForm, "1;2": api.ErrForm,
		"1/0": api.ErrZero, "0/0": api.ErrZero, "-3/0": api.ErrZero,
		strings.Repeat("1", 1001): api.ErrLimit, strings.Repeat("a", 1001): api.ErrLimit, "1/0" + strings.Repeat(" ", 998): api.ErrLimit,
		"-" + strings.Repeat("1", 1000): api.ErrLimit, strings.Repeat("a", 1000): api.ErrForm, "1" + zeros + "0": api.ErrLimit,
	} {
		q, e := exact.Parse(text)
		expectError(t, "Parse("+text+")", e, want)
		expect(t, "Parse("+text+")", q.Text(), "0")
	}
	if _, e := exact.Parse("0." + zeros[:998]); e != api.OK {
		t.Error("Parse of 1000 bytes:", e)
	}
}

func TestTextOfManyDigits(t *testing.T) {
	s := source(1)
	for range 200 {
		r := s.ratio(40)
		expect(t, "Text", ofRat(r).Text(), r.RatString())
	}
	for _, zeros := range []int{17, 18, 19, 20, 37, 38, 39, 57, 58, 400} {
		text := "1" + strings.Repeat("0", zeros)
		expect(t, "Text", num(text).Text(), text)
		expect(t, "Text", num(text).Add(exact.Int(7)).Text(), text[:zeros]+"7")
	}
}

// P1.2: Add, Sub, Mul, Div, Neg, Abs, Cmp, Sign.

// checkPair compares all that is computed from two numbers with what package
// math/big computes.
func checkPair(t *testing.T, x, y *big.Rat) {
	t.Helper()
	a, b := ofRat(x), ofRat(y)
	call := " of " + x.RatString() + " and " + y.RatString()
	expect(t, "Add"+call, a.Add(b).Text(), new(big.Rat).Add(x, y).RatString())
	expect(t, "Sub"+call, a.Sub(b).Text(), new(big.Rat).Sub(x, y).RatString())
	expect(t, "Mul"+call, a.Mul(b).Text(), new(big.Rat).Mul(x, y).RatString())
	expect(t, "Neg"+call, a.Neg().Text(), new(big.Rat).Neg(x).RatString())
	expect(t, "Abs"+call, a.Abs().Text(), new(big.Rat).Abs(x).RatString())
	if a.Cmp(b) != x.Cmp(y) || a.Sign() != x.Sign() || a.Cmp(a) != 0 {
		t.Error("Cmp, Sign"+call, a.Cmp(b), a.Sign())
	}
	c, e := a.Div(b)
	if y.Sign() == 0 {
		expectError(t, "Div"+call, e, api.ErrZero)
		expect(t, "Div"+call, c.Text(), "0")
		return
	}
	expectError(t, "Div"+call, e, api.OK)
	expect(t, "Div"+call, c.Text(), new(big.Rat).Quo(x, y).RatString())
}

func TestArithmetic(t *testing.T) {
	s := source(2)
	for i := range 3000 {
		words := 1 + i%5
		checkPair(t, s.ratio(words), s.ratio(words))
	}
	for range 30 {
		checkPair(t, s.ratio(60), s.ratio(20))
	}
}

func TestArithmeticOfSmallNumbers(t *testing.T) {
	for n := int64(-6); n <= 6; n++ {
		for d := int64(1); d <= 4; d++ {
			for m := int64(-6); m <= 6; m++ {
				checkPair(t, big.NewRat(n, d), big.NewRat(m, 3))
				checkPair(t, big.NewRat(n, d), big.NewRat(m, 4))
			}
		}
	}
}

// The results of computations at the ends of int64 and of words.
func TestArithmeticAtEnds(t *testing.T) {
	var l []*big.Rat
	for _, k := range []uint{31, 32, 62, 63, 64, 65, 127, 128, 192} {
		for _, off := range []int64{-1, 0, 1} {
			n := new(big.Int).Lsh(big.NewInt(1), k)
			n.Add(n, big.NewInt(off))
			l = append(l, new(big.Rat).SetInt(n), new(big.Rat).SetInt(new(big.Int).Neg(n)),
				new(big.Rat).SetFrac(big.NewInt(1), n), new(big.Rat).SetFrac(big.NewInt(-3), n))
		}
	}
	l = append(l, new(big.Rat))
	for _, x := range l {
		for _, y := range l {
			checkPair(t, x, y)
		}
	}
}

// Common divisors of many digits, which have to be cut.
func TestCommonDivisors(t *testing.T) {
	s := source(3)
	for i := range 500 {
		words := 1 + i%12
		g, p, q := s.integer(words), s.integer(words), s.integer(words)
		p.Mul(p, g)
		q.Mul(q, g)
		if q.Sign() == 0 {
			continue
		}
		c, e := ofBig(p).Div(ofBig(q))
		expectError(t, "Div", e, api.OK)
		expect(t, "Div", c.Text(), new(big.Rat).SetFrac(p, q).RatString())
	}
	a, b := big.NewInt(1), big.NewInt(1)
	for range 500 {
		a, b = b, new(big.Int).Add(a, b)
	}
	c, _ := ofBig(a).Div(ofBig(b))
	expect(t, "Div of neighbours of Fibonacci", c.Text(), a.String()+"/"+b.String())
}

// P1.3: Num, Den, Floor, Ceil, Round, Int64, Bits.

func TestParts(t *testing.T) {
	for text, want := range map[string][6]string{ // Num, Den, Floor, Ceil, Round, Bits
		"0": {"0", "1", "0", "0", "0", "1"}, "1": {"1", "1", "1", "1", "1", "2"}, "-1": {"-1", "1", "-1", "-1", "-1", "2"},
		"5/2": {"5", "2", "2", "3", "2", "5"}, "-5/2": {"-5", "2", "-3", "-2", "-2", "5"},
		"7/2": {"7", "2", "3", "4", "4", "5"}, "-7/2": {"-7", "2", "-4", "-3", "-4", "5"},
		"1/2": {"1", "2", "0", "1", "0", "3"}, "-1/2": {"-1", "2", "-1", "0", "0", "3"}, "3/2": {"3", "2", "1", "2", "2", "4"},
		"-3/2": {"-3", "2", "-2", "-1", "-2", "4"}, "1/3": {"1", "3", "0", "1", "0", "3"}, "2/3": {"2", "3", "0", "1", "1", "4"},
		"-1/3": {"-1", "3", "-1", "0", "0", "3"}, "-2/3": {"-2", "3", "-1", "0", "-1", "4"}, "-5/4": {"-5", "4", "-2", "-1", "-1", "6"},
		"18446744073709551615/2":  {"18446744073709551615", "2", "9223372036854775807", "9223372036854775808", "9223372036854775808", "66"},
		"18446744073709551616":    {"18446744073709551616", "1", "18446744073709551616", "18446744073709551616", "18446744073709551616", "66"},
		"36893488147419103233/2":  {"36893488147419103233", "2", "18446744073709551616", "18446744073709551617", "18446744073709551616", "68"},
		"36893488147419103235/2":  {"36893488147419103235", "2", "18446744073709551617", "18446744073709551618", "18446744073709551618", "68"},
		"-36893488147419103235/2": {"-36893488147419103235", "2", "-18446744073709551618", "-18446744073709551617", "-18446744073709551618", "68"},
		"1/18446744073709551616":  {"1", "18446744073709551616", "0", "1", "0", "66"},
		"-1/18446744073709551616": {"-1", "18446744073709551616", "-1", "0", "0", "66"},
	} {
		q := num(text)
		got := [6]string{q.Num().Text(), q.Den().Text(), q.Floor().Text(), q.Ceil().Text(), q.Round().Text(), strconv.Itoa(q.Bits())}
		if got != want {
			t.Errorf("parts of %s: got %v, want %v", text, got, want)
		}
	}
}

func TestPartsOfManyDigits(t *testing.T) {
	s := source(4)
	for i := range 500 {
		r := s.ratio(1 + i%9)
		q := ofRat(r)
		floor, rest := new(big.Int).DivMod(r.Num(), r.Denom(), new(big.Int))
		expect(t, "Num", q.Num().Text(), r.Num().String())
		expect(t, "Den", q.Den().Text(), r.Denom().String())
		expect(t, "Floor", q.Floor().Text(), floor.String())
		if rest.Sign() > 0 {
			floor.Add(floor, big.NewInt(1))
		}
		expect(t, "Ceil", q.Ceil().Text(), floor.String())
		if q.Bits() != r.Num().BitLen()+r.Denom().BitLen() {
			t.Error("Bits of", r, q.Bits())
		}
	}
}

func TestInt64(t *testing.T) {
	for _, n := range ints() {
		if m, ok := exact.Int(n).Int64(); m != n || !ok {
			t.Error("Int64 of", n, m, ok)
		}
	}
	if m, ok := num("-9223372036854775808").Int64(); m != math.MinInt64 || !ok {
		t.Error("Int64 of the least one:", m, ok)
	}
	for _, text := range []string{
		"1/2", "-7/3", "9223372036854775808", "-9223372036854775809", "18446744073709551615", "-18446744073709551615",
		"18446744073709551616", "-18446744073709551616", "18446744073709551617", "1/18446744073709551617", "36893488147419103232",
	} {
		if m, ok := num(text).Int64(); m != 0 || ok {
			t.Error("Int64 of", text, m, ok)
		}
	}
}

// P1.4: Near, Root.

func TestNear(t *testing.T) {
	for _, c := range []struct {
		text string
		most int64
		want string
	}{
		{"355/113", 7, "22/7"}, {"355/113", 100, "311/99"}, {"355/113", 112, "333/106"}, {"355/113", 113, "355/113"}, {"355/113", 1, "3"},
		{"1/2", 1, "0"}, {"-1/2", 1, "-1"}, {"3/2", 1, "1"}, {"-3/2", 1, "-2"}, {"2/3", 1, "1"}, {"-2/3", 1, "-1"}, {"1/4", 2, "0"},
		{"3/4", 2, "1"}, {"3/4", 3, "2/3"}, {"1/6", 3, "0"}, {"5", 1, "5"}, {"0", 9, "0"}, {"-22/7", 7, "-22/7"},
		{"9223372036854775807/9223372036854775806", 9223372036854775807, "9223372036854775807/9223372036854775806"},
		{"1/18446744073709551616", 9223372036854775807, "0"},
		{"1/18446744073709551613", 9223372036854775807, "1/9223372036854775807"},
		{"18446744073709551617/2", 1, "9223372036854775808"},
	} {
		q, e := num(c.text).Near(c.most)
		expectError(t, "Near of "+c.text, e, api.OK)
		expect(t, "Near of "+c.text, q.Text(), c.want)
	}
	for _, most := range []int64{0, -1, math.MinInt64} {
		q, e := num("1/2").Near(most)
		expectError(t, "Near", e, api.ErrRange)
		expect(t, "Near", q.Text(), "0")
	}
}

// nearest tries out all denominators, the least ones first, and below each the
// lesser number first.
func nearest(a exact.Q, most int64) exact.Q {
	best := a.Floor()
	for d := int64(1); d <= most; d++ {
		scaled := a.Mul(exact.Int(d))
		for _, n := range []exact.Q{scaled.Floor(), scaled.Ceil()} {
			candidate, _ := n.Div(exact.Int(d))
			if candidate.Sub(a).Abs().Cmp(best.Sub(a).Abs()) < 0 {
				best = candidate
			}
		}
	}
	return best
}

func TestNearByTrying(t *testing.T) {
	for d := int64(1); d <= 24; d++ {
		for n := -2 * d; n <= 2*d; n++ {
			for most := int64(1); most <= d+1; most++ {
				a, _ := exact.Of(n, d)
				got, e := a.Near(most)
				expectError(t, "Near", e, api.OK)
				expect(t, "Near("+strconv.FormatInt(most, 10)+") of "+a.Text(), got.Text(), nearest(a, most).Text())
			}
		}
	}
	s := source(5)
	for range 100 {
		a := ofRat(s.ratio(2))
		got, _ := a.Near(60)
		expect(t, "Near(60) of "+a.Text(), got.Text(), nearest(a, 60).Text())
	}
}

func TestRoot(t *testing.T) {
	for _, c := range []struct {
		text string
		k    int
		want string
	}{
		{"2", 3, "11/8"}, {"2", 10, "181/128"}, {"2", 0, "1"}, {"0", 0, "0"}, {"0", 64, "0"}, {"4", 0, "2"}, {"4", 64, "2"}, {"3", 0, "1"},
		{"1/4", 0, "0"}, {"1/4", 1, "1/2"}, {"1/9", 2, "1/4"}, {"15", 0, "3"}, {"16", 0, "4"}, {"17", 0, "4"}, {"99/100", 0, "0"},
		{"18446744073709551615", 0, "4294967295"}, {"18446744073709551616", 0, "4294967296"},
		{"340282366920938463463374607431768211455", 0, "18446744073709551615"},
		{"340282366920938463463374607431768211456", 0, "18446744073709551616"},
		{"2", 64, "26087635650665564424/18446744073709551616"},
	} {
		q, e := num(c.text).Root(c.k)
		expectError(t, "Root of "+c.text, e, api.OK)
		expect(t, "Root of "+c.text, q.Text(), num(c.want).Text())
	}
	for _, c := range []struct {
		text string
		k    int
		want api.Errno
	}{
		{"2", -1, api.ErrRange}, {"2", 65, api.ErrRange}, {"-2", -1, api.ErrRange}, {"-2", 65, api.ErrRange}, {"2", math.MaxInt, api.ErrRange},
		{"2", math.MinInt, api.ErrRange}, {"-2", 0, api.ErrNone}, {"-1/4", 64, api.ErrNone},
	} {
		q, e := num(c.text).Root(c.k)
		expectError(t, "Root of "+c.text, e, c.want)
		expect(t, "Root of "+c.text, q.Text(), "0")
	}
}

func TestRootOfManyDigits(t *testing.T) {
	s := source(6)
	for i := range 300 {
		a, k := ofRat(s.ratio(1+i%6)).Abs(), s.below(65)
		r, e := a.Root(k)
		expectError(t, "Root", e, api.OK)
		step, _ := exact.Int(1).Div(ofBig(new(big.Int).Lsh(big.NewInt(1), uint(k))))
		multiple, _ := r.Div(step)
		next := r.Add(step)
		if r.Sign() < 0 || multiple.Den().Cmp(exact.Int(1)) != 0 || r.Mul(r).Cmp(a) > 0 || next.Mul(next).Cmp(a) <= 0 {
			t.Error("Root of", a.Text(), k, r.Text())
		}
	}
}

// P1.5: Min, Max, Sum.

func TestLists(t *testing.T) {
	for text, want := range map[string]string{
		"": "0 0 0", "5": "5 5 5", "-5": "-5 -5 -5", "1/2 1/3": "1/3 1/2 5/6", "1/3 1/2": "1/3 1/2 5/6", "-1 -2 -3": "-3 -1 -6",
		"3 1 2": "1 3 6", "2 3 1": "1 3 6", "1 2 3": "1 3 6", "1/2 -1/2": "-1/2 1/2 0", "7 7": "7 7 14", "0 1": "0 1 1", "0 -1": "-1 0 -1",
		"18446744073709551616 1 -18446744073709551616": "-18446744073709551616 18446744073709551616 1",
	} {
		l := nums(text)
		expect(t, "Min, Max, Sum of "+text, listText([]exact.Q{exact.Min(l...), exact.Max(l...), exact.Sum(l...)}), want)
		expect(t, "the list", listText(l), text)
	}
}
