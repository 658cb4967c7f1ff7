package control_test

import (
	"math/big"
	"strconv"
	"strings"
	"testing"

	"amble/api"
	"amble/control"
	"amble/exact"
)

// expectRanges checks what Ranges gives, and that Bounds has the same error.
func expectRanges(t *testing.T, p control.Program, in []control.Range, want string, place int) {
	t.Helper()
	name := "Ranges of " + programText(p) + " for " + rangesText(in)
	out, at, e := control.Ranges(p, in)
	wantError := api.OK
	if place != 0 || want == "" {
		wantError = api.ErrRange
	}
	expectError(t, name, e, wantError)
	expect(t, name, rangesText(out), want)
	expect(t, "the place of "+name, strconv.Itoa(at), strconv.Itoa(place))
	bounds, e := control.Bounds(p, in, make([]exact.Q, len(in)))
	expectError(t, "Bounds, as "+name, e, wantError)
	if e != api.OK && len(bounds) > 0 {
		t.Error("bounds with an error:", name)
	}
}

// P9.4: ranges of each kind that are written out; ends that just fit, and ends
// that just do not.
func TestRanges(t *testing.T) {
	expectRanges(t, small(), ranges("-10 10"), "[-10 10][-15 15][-25 25]", 0)
	for _, c := range []struct {
		operations, in, want string
		at                   int
	}{
		{"input 0, input 1, add 0 1", "-3 5, 10 20", "[-3 5][10 20][7 25]", 0},
		{"input 0, input 1, sub 0 1", "-3 5, 10 20", "[-3 5][10 20][-23 -5]", 0},
		{"input 0, sub 0 0", "-3 5, 0 0", "[-3 5][-8 8]", 0},
		{"input 0, input 1, mul 0 1 0", "-3 5, 2 7", "[-3 5][2 7][-21 35]", 0},
		{"input 0, input 1, mul 0 1 0", "-3 5, -4 7", "[-3 5][-4 7][-21 35]", 0},
		{"input 0, input 1, mul 0 1 0", "-3 5, -7 4", "[-3 5][-7 4][-35 21]", 0},
		{"input 0, input 1, mul 0 1 0", "-3 -2, -7 -5", "[-3 -2][-7 -5][10 21]", 0},
		{"input 0, input 1, mul 0 1 0", "2 3, -7 -5", "[2 3][-7 -5][-21 -10]", 0},
		{"input 0, input 1, mul 0 1 2", "-3 5, -7 4", "[-3 5][-7 4][-9 5]", 0},
		{"input 0, mul 0 0 0", "-3 5, 0 0", "[-3 5][-15 25]", 0},
		{"input 0, scale 0 3 1", "-3 5, 0 0", "[-3 5][-5 7]", 0},
		{"input 0, scale 0 -3 1", "-3 5, 0 0", "[-3 5][-8 4]", 0},
		{"input 0, scale 0 0 1", "-3 5, 0 0", "[-3 5][0 0]", 0},
		{"input 0, left 0 2", "-3 5, 0 0", "[-3 5][-12 20]", 0},
		{"input 0, input 1, min 0 1, max 0 1", "-3 5, 2 4", "[-3 5][2 4][-3 4][2 5]", 0},
		{"input 0, input 1, min 0 1, max 0 1", "1 2, 8 9", "[1 2][8 9][1 2][8 9]", 0},
		{"input 0, input 1, min 0 1, max 0 1", "1 8, 2 9", "[1 8][2 9][1 8][2 9]", 0},
		{"const -128, const 127", "0 0, 0 0", "[-128 -128][127 127]", 0},
		{"const 0, const 128", "0 0, 0 0", "", 1},
		{"const -129", "0 0, 0 0", "", 0},
		{"input 1", "0 0, 7 7", "[7 7]", 0},
		{"", "-128 127, 0 0", "", 0},
		{"", "-129 127, 0 0", "", -1},
		{"", "0 0, 0 128", "", -1},
		{"const 999", "0 0, 0 128", "", -1},
		{"", "-9223372036854775808 9223372036854775807, 0 0", "", -1},
		{"input 0, input 1, add 0 1", "100 110, 5 17", "[100 110][5 17][105 127]", 0},
		{"input 0, input 1, add 0 1", "100 110, 5 18", "", 2},
		{"input 0, input 1, add 0 1", "-110 0, -18 5", "[-110 0][-18 5][-128 5]", 0},
		{"input 0, input 1, add 0 1", "-110 0, -19 5", "", 2},
		{"input 0, scale 0 -1 0", "-128 0, 0 0", "", 1},
		{"input 0, scale 0 -1 0", "-127 0, 0 0", "[-127 0][0 127]", 0},
		{"input 0, left 0 4", "-8 7, 0 0", "[-8 7][-128 112]", 0},
		{"input 0, left 0 4", "-8 8, 0 0", "", 1},
		{"input 0, left 0 62", "0 4, 0 0", "", 1},
		{"input 0, mul 0 0 0", "-11 11, 0 0", "[-11 11][-121 121]", 0},
		{"input 0, mul 0 0 0", "-11 12, 0 0", "", 1},
	} {
		p := program(8, 2, c.operations, "")
		if c.operations == "" && c.at == 0 {
			expectEmptyRanges(t, p, ranges(c.in))
			continue
		}
		expectRanges(t, p, ranges(c.in), c.want, c.at)
	}
	wide := program(62, 1, "input 0, mul 0 0 62", "")
	ends := "[-2305843009213693952 2305843009213693951]"
	expectRanges(t, wide, ranges(trim(ends)), ends+"[-1152921504606846976 1152921504606846976]", 0)
	expectRanges(t, wide, ranges("-2305843009213693953 0"), "", -1)
}

// expectEmptyRanges checks that a program of no operations has no ranges, and no
// error.
func expectEmptyRanges(t *testing.T, p control.Program, in []control.Range) {
	t.Helper()
	out, at, e := control.Ranges(p, in)
	expectOK(t, "Ranges of nothing", rangesText(out)+strconv.Itoa(at), e, "0")
}

// P9.4, P9.5: ranges that are none, and errors that are none; they come before
// what does not fit.
func TestRangeErrors(t *testing.T) {
	for _, c := range []struct {
		name, operations, in, off string
		ranges, bounds            api.Errno
	}{
		{"all is right", "input 0", "1 2, 3 3", "0 1/2", api.OK, api.OK},
		{"a Low above its High", "input 0", "2 1, 3 3", "0 0", api.ErrArg, api.ErrArg},
		{"a second Low above its High", "input 0", "1 2, 4 3", "0 0", api.ErrArg, api.ErrArg},
		{"an end that does not fit before it", "const 999", "1 999, 4 3", "0 0", api.ErrArg, api.ErrArg},
		{"an error below 0", "input 0", "1 2, 3 3", "0 -1/1000", api.OK, api.ErrArg},
		{"a first error below 0", "input 0", "1 2, 3 3", "-1 0", api.OK, api.ErrArg},
		{"an error below 0, and an end that does not fit", "const 999", "1 999, 3 3", "0 -1", api.ErrRange, api.ErrArg},
		{"an end that does not fit", "input 0", "1 999, 3 3", "0 0", api.ErrRange, api.ErrRange},
		{"a value that does not fit", "const 999", "1 2, 3 3", "0 0", api.ErrRange, api.ErrRange},
		{"a great error, that needs not fit", "input 0", "1 2, 3 3", "99999 0", api.OK, api.OK},
	} {
		p := program(8, 2, c.operations, "0")
		_, at, e := control.Ranges(p, ranges(c.in))
		expectError(t, "Ranges: "+c.name, e, c.ranges)
		if e == api.ErrArg {
			expect(t, "the place of Ranges: "+c.name, strconv.Itoa(at), "0")
		}
		_, e = control.Bounds(p, ranges(c.in), nums(c.off))
		expectError(t, "Bounds: "+c.name, e, c.bounds)
	}
}

// ends are a range of integers of math/big.
type ends struct{ low, high *big.Int }

// lesser and greater return one of several integers.
func lesser(l ...*big.Int) *big.Int {
	least := l[0]
	for _, n := range l {
		if n.Cmp(least) < 0 {
			least = n
		}
	}
	return least
}

func greater(l ...*big.Int) *big.Int {
	most := l[0]
	for _, n := range l {
		if n.Cmp(most) > 0 {
			most = n
		}
	}
	return most
}

// rangeOf returns the range of an operation, by the chapter's words.
func rangeOf(o control.Op, r, in []ends) ends {
	product := func(a, b *big.Int) *big.Int {
		n := new(big.Int).Mul(a, b)
		return n.Rsh(n, uint(o.Shift))
	}
	k := big.NewInt(o.K)
	switch o.Kind {
	case control.Input:
		return in[o.A]
	case control.Const:
		return ends{k, k}
	}
	a, b := r[o.A], r[o.B]
	switch o.Kind {
	case control.Add:
		return ends{new(big.Int).Add(a.low, b.low), new(big.Int).Add(a.high, b.high)}
	case control.Sub:
		return ends{new(big.Int).Sub(a.low, b.high), new(big.Int).Sub(a.high, b.low)}
	case control.Mul:
		l := []*big.Int{product(a.low, b.low), product(a.low, b.high), product(a.high, b.low), product(a.high, b.high)}
		return ends{lesser(l...), greater(l...)}
	case control.Scale:
		l := []*big.Int{product(a.low, k), product(a.high, k)}
		return ends{lesser(l...), greater(l...)}
	case control.Left:
		return ends{new(big.Int).Lsh(a.low, uint(o.Shift)), new(big.Int).Lsh(a.high, uint(o.Shift))}
	case control.Min:
		return ends{lesser(a.low, b.low), lesser(a.high, b.high)}
	}
	return ends{greater(a.low, b.low), greater(a.high, b.high)}
}

// fit reports whether both ends fit a width.
func (r ends) fit(width int) bool {
	return fits(new(big.Rat).SetInt(r.low), width) && fits(new(big.Rat).SetInt(r.high), width)
}

// ranged returns the ranges of a program by math/big, or the place of what does
// not fit.
func ranged(p control.Program, in []control.Range) (registers []ends, at int, ok bool) {
	var inputs []ends
	for _, r := range in {
		input := ends{big.NewInt(r.Low), big.NewInt(r.High)}
		if !input.fit(p.Width) {
			return nil, -1, false
		}
		inputs = append(inputs, input)
	}
	for i, o := range p.Ops {
		registers = append(registers, rangeOf(o, registers, inputs))
		if !registers[i].fit(p.Width) {
			return nil, i, false
		}
	}
	return registers, 0, true
}

// boundOf returns the bound of an operation, by the chapter's words.
func boundOf(o control.Op, r []ends, e, off []*big.Rat) *big.Rat {
	shift := new(big.Rat).SetInt(new(big.Int).Lsh(big.NewInt(1), uint(o.Shift)))
	most := func(place int) *big.Rat {
		a := r[place]
		return new(big.Rat).SetInt(greater(new(big.Int).Abs(a.low), new(big.Int).Abs(a.high)))
	}
	times := func(a, b *big.Rat) *big.Rat { return new(big.Rat).Mul(a, b) }
	rounded := func(bound *big.Rat) *big.Rat {
		bound.Quo(bound, shift)
		if o.Shift > 0 {
			bound.Add(bound, big.NewRat(1, 1))
		}
		return bound
	}
	switch o.Kind {
	case control.Input:
		return off[o.A]
	case control.Const:
		return new(big.Rat)
	case control.Scale:
		k := new(big.Rat).SetInt64(o.K)
		return rounded(times(k.Abs(k), e[o.A]))
	case control.Left:
		return times(shift, e[o.A])
	}
	a, b := e[o.A], e[o.B]
	switch o.Kind {
	case control.Mul:
		sum := times(most(o.A), b)
		sum.Add(sum, times(most(o.B), a))
		return rounded(sum.Add(sum, times(a, b)))
	case control.Add, control.Sub:
		return new(big.Rat).Add(a, b)
	}
	if a.Cmp(b) > 0 {
		return a
	}
	return b
}

// errors returns so many numbers that are not below 0.
func (s *source) errors(n int) []exact.Q {
	l := make([]exact.Q, n)
	for i := range l {
		l[i] = s.one("0 0 1/2 1 1/3 7 1/1000 100")
	}
	return l
}

// P9.4, P9.5: ranges and bounds of programs that look random, compared with
// math/big and the chapter's table.
func TestRandomRanges(t *testing.T) {
	s := source(940)
	counts := map[int]int{}
	for range 3000 {
		p := s.program()
		in, _ := s.ranges(p)
		off := s.errors(p.Inputs)
		registers, place, ok := ranged(p, in)
		out, at, e := control.Ranges(p, in)
		name := " of " + programText(p) + " for " + rangesText(in)
		expect(t, "the place of Ranges"+name, strconv.Itoa(at), strconv.Itoa(place))
		bounds, boundsError := control.Bounds(p, in, off)
		if !ok {
			expectError(t, "Ranges"+name, e, api.ErrRange)
			expectError(t, "Bounds"+name, boundsError, api.ErrRange)
			counts[place]++
			continue
		}
		counts[99]++
		wantRanges, wantBounds := "", []string{}
		var known, errors []*big.Rat
		for _, q := range off {
			known = append(known, rat(q))
		}
		for i, o := range p.Ops {
			errors = append(errors, boundOf(o, registers, errors, known))
			wantBounds = append(wantBounds, ratText(errors[i]))
			wantRanges += "[" + registers[i].low.String() + " " + registers[i].high.String() + "]"
		}
		expectOK(t, "Ranges"+name, rangesText(out), e, wantRanges)
		expectOK(t, "Bounds"+name, numsText(bounds), boundsError, "["+strings.Join(wantBounds, " ")+"]")
	}
	if counts[99] < 1000 || counts[-1] < 30 || counts[1] < 100 || counts[5] < 20 {
		t.Error("the places of what does not fit:", counts)
	}
}

// P9.5: bounds that are written out.
func TestBounds(t *testing.T) {
	for _, c := range []struct{ operations, in, off, want string }{
		{"input 0, scale 0 3 1, add 0 1", "-10 10, 0 0", "1/2 0", "[1/2 7/4 9/4]"},
		{"input 0, input 1, add 0 1, sub 0 1", "-3 5, 1 2", "1/2 1/3", "[1/2 1/3 5/6 5/6]"},
		{"input 0, sub 0 0", "-3 5, 1 2", "1/2 1/3", "[1/2 1]"},
		{"input 0, input 1, mul 0 1 0", "-3 5, -7 2", "1/2 1/3", "[1/2 1/3 16/3]"},
		{"input 0, input 1, mul 0 1 1", "-3 5, -7 2", "1/2 1/3", "[1/2 1/3 11/3]"},
		{"input 0, input 1, mul 0 1 0", "-3 5, -7 2", "0 0", "[0 0 0]"},
		{"input 0, input 1, mul 0 1 3", "-3 5, -7 2", "0 0", "[0 0 1]"},
		{"input 0, scale 0 -3 0", "-3 5, 0 0", "1/2 0", "[1/2 3/2]"},
		{"input 0, scale 0 -3 2", "-3 5, 0 0", "1/2 0", "[1/2 11/8]"},
		{"input 0, scale 0 -9223372036854775808 62", "-3 5, 0 0", "1/2 0", "[1/2 2]"},
		{"input 0, left 0 3", "-3 5, 0 0", "1/2 0", "[1/2 4]"},
		{"input 0, left 0 0", "-3 5, 0 0", "1/2 0", "[1/2 1/2]"},
		{"input 0, input 1, min 0 1, max 0 1", "-3 5, 0 0", "1/2 1/3", "[1/2 1/3 1/2 1/2]"},
		{"input 0, input 1, min 1 0, max 1 0", "-3 5, 0 0", "1/3 1/2", "[1/3 1/2 1/2 1/2]"},
		{"const 5, const -7, mul 0 1 1", "0 0, 0 0", "9 9", "[0 0 1]"},
		{"input 0, input 0, sub 0 1", "0 0, 0 0", "1000000 0", "[1000000 1000000 2000000]"},
		{"", "0 0, 0 0", "1 1", "[]"},
	} {
		got, e := control.Bounds(program(8, 2, c.operations, ""), ranges(c.in), nums(c.off))
		expectOK(t, "Bounds of "+c.operations, numsText(got), e, c.want)
	}
}

// P9.5: ideal values that are written out; nothing needs to fit.
func TestIdeal(t *testing.T) {
	for _, c := range []struct{ operations, outputs, in, want string }{
		{"input 0, scale 0 3 1, add 0 1", "2 1 0", "5 0", "[25/2 15/2 5]"},
		{"input 0, input 1, add 0 1, sub 0 1, mul 0 1 0", "2 3 4 2", "1/2 -1/3", "[1/6 5/6 -1/6 1/6]"},
		{"input 0, input 1, mul 0 1 2, left 2 3", "2 3", "1/2 -1/3", "[-1/24 -1/3]"},
		{"input 0, input 1, min 0 1, max 0 1", "2 3", "1/2 1/3", "[1/3 1/2]"},
		{"input 0, input 1, min 0 1, max 0 1", "2 3", "1/3 1/2", "[1/3 1/2]"},
		{"input 1, const 1000, mul 0 1 0", "2 1", "0 1000", "[1000000 1000]"},
		{"const -9223372036854775808, scale 0 -9223372036854775808 62", "1", "0 0", "[18446744073709551616]"},
		{"input 0, scale 0 0 62", "1", "1/7 0", "[0]"},
		{"input 0", "", "1/7 0", "[]"},
		{"", "", "1/7 0", "[]"},
	} {
		got, e := control.Ideal(program(8, 2, c.operations, c.outputs), nums(c.in))
		expectOK(t, "Ideal of "+c.operations, numsText(got), e, c.want)
	}
}

// P9.5: ideal values of programs that look random, compared with math/big.
func TestRandomIdeal(t *testing.T) {
	s := source(950)
	for range 2000 {
		p := s.program()
		in := s.numbers(p.Inputs)
		var inputs, registers []*big.Rat
		for _, q := range in {
			inputs = append(inputs, rat(q))
		}
		for _, o := range p.Ops {
			registers = append(registers, value(o, registers, inputs))
		}
		var want []string
		for _, place := range p.Outputs {
			want = append(want, ratText(registers[place]))
		}
		got, e := control.Ideal(p, in)
		expectOK(t, "Ideal of "+programText(p), numsText(got), e, "["+strings.Join(want, " ")+"]")
	}
}

// P1: values that no output needs may be beyond all bounds.
func TestIdealOfWhatIsNeeded(t *testing.T) {
	p := program(8, 1, "input 0, const 7, sub 0 1", "2")
	for i := range api.MaxOps - 3 {
		p.Ops = append(p.Ops, control.Op{Kind: control.Mul, A: 2 + i, B: 2 + i})
	}
	got, e := control.Ideal(p, nums("3"))
	expectOK(t, "Ideal without what is not needed", numsText(got), e, "[-4]")
	p.Outputs = places("5 3")
	got, e = control.Ideal(p, nums("3"))
	expectOK(t, "Ideal of some powers", numsText(got), e, "[65536 16]")
}
