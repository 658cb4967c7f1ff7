package control_test

import (
	"math"
	"math/big"
	"strconv"
	"testing"

	"amble/api"
	"amble/control"
	"amble/exact"
)

// expectProgramError checks the error of all calls with a program and as many
// inputs as it has, all of them 0.
func expectProgramError(t *testing.T, name string, p control.Program, want api.Errno) {
	t.Helper()
	n := p.Inputs & 31
	expectError(t, "CheckProgram: "+name, control.CheckProgram(p), want)
	out, at, e := control.Eval(p, make([]int64, n))
	if want != api.OK || e != api.ErrRange {
		expectError(t, "Eval: "+name, e, want)
		expect(t, "the place of Eval: "+name, strconv.Itoa(at), "0")
	}
	spread, at, e := control.Ranges(p, make([]control.Range, n))
	if want != api.OK || e != api.ErrRange {
		expectError(t, "Ranges: "+name, e, want)
		expect(t, "the place of Ranges: "+name, strconv.Itoa(at), "0")
	}
	ideal, e := control.Ideal(p, make([]exact.Q, n))
	expectError(t, "Ideal: "+name, e, want)
	bounds, e := control.Bounds(p, make([]control.Range, n), make([]exact.Q, n))
	if want != api.OK || e != api.ErrRange {
		expectError(t, "Bounds: "+name, e, want)
	}
	if want != api.OK && len(out)+len(spread)+len(ideal)+len(bounds) > 0 {
		t.Error("a wrong program has results:", name)
	}
}

// P9.3: programs of all widths and numbers of inputs, and outputs that are none.
func TestCheckProgram(t *testing.T) {
	for _, width := range []int{math.MinInt, -2, 0, 1, 2, 3, 61, 62, 63, 64, math.MaxInt} {
		want := api.ErrArg
		if width >= 2 && width <= 62 {
			want = api.OK
		}
		expectProgramError(t, "width "+strconv.Itoa(width), program(width, 1, "input 0, add 0 0", "1"), want)
		expectProgramError(t, "width "+strconv.Itoa(width)+" of nothing", program(width, 0, "", ""), want)
	}
	for _, n := range []int{math.MinInt, -1, 0, 1, 15, 16, 17, math.MaxInt} {
		want := api.ErrArg
		if n >= 0 && n <= api.MaxInputs {
			want = api.OK
		}
		expectProgramError(t, strconv.Itoa(n)+" inputs", program(8, n, "const 1", "0"), want)
	}
	for _, c := range []struct {
		n    int
		want api.Errno
	}{{0, api.OK}, {1, api.OK}, {api.MaxOps, api.OK}, {api.MaxOps + 1, api.ErrArg}, {5 * api.MaxOps, api.ErrArg}} {
		p := control.Program{Width: 8, Ops: times(c.n, op("const 1"))}
		expectProgramError(t, strconv.Itoa(c.n)+" operations", p, c.want)
	}
	for _, c := range []struct {
		outputs string
		want    api.Errno
	}{
		{"", api.OK}, {"0", api.OK}, {"1", api.OK}, {"2", api.OK}, {"3", api.ErrArg}, {"-1", api.ErrArg},
		{"2 2 0 1 2", api.OK}, {"0 1 2 3", api.ErrArg}, {"0 -1 2", api.ErrArg},
		{"9223372036854775807", api.ErrArg}, {"-9223372036854775808", api.ErrArg},
	} {
		p := small()
		p.Outputs = places(c.outputs)
		expectProgramError(t, "the outputs "+c.outputs, p, c.want)
	}
	expectProgramError(t, "an output of nothing", program(8, 0, "", "0"), api.ErrArg)
	many := small()
	many.Outputs = times(1000, 1)
	expectProgramError(t, "many outputs", many, api.OK)
	expectProgramError(t, "the program of nothing", control.Program{}, api.ErrArg)
}

// isOp reports whether an operation may stand at a place.
func isOp(o control.Op, place, inputs int) bool {
	use, ok := useOf(o.Kind)
	if !ok {
		return false
	}
	rest := o
	for _, part := range use {
		switch part {
		case 'i':
			ok = ok && 0 <= o.A && o.A < inputs
			rest.A = 0
		case 'a':
			ok = ok && 0 <= o.A && o.A < place
			rest.A = 0
		case 'b':
			ok = ok && 0 <= o.B && o.B < place
			rest.B = 0
		case 'k':
			rest.K = 0
		case 's':
			ok = ok && o.Shift <= 62
			rest.Shift = 0
		}
	}
	return ok && rest.A == 0 && rest.B == 0 && rest.K == 0 && rest.Shift == 0
}

// P9.3: each kind, and unknown ones, with a register that is its own place, or a
// later one, or below 0, with inputs that are none, with shifts of all kinds,
// and with numbers that are not used.
func TestOperations(t *testing.T) {
	right, wrong := map[uint8]int{}, map[uint8]int{}
	for _, kind := range []uint8{0, 1, 2, 3, 4, 5, 6, 7, 8, 9, 10, 11, 128, 255} {
		for _, a := range []int{math.MinInt, -1, 0, 1, 2, 3, 4, math.MaxInt} {
			for _, b := range []int{math.MinInt, -1, 0, 2, 3, 4, math.MaxInt} {
				for _, k := range []int64{math.MinInt64, 0, 1, math.MaxInt64} {
					for _, shift := range []uint8{0, 1, 62, 63, 64, 255} {
						o := control.Op{Kind: kind, A: a, B: b, K: k, Shift: shift}
						p := control.Program{Width: 8, Inputs: 2, Ops: append(ops("input 0, input 1, const 3"), o)}
						p.Ops = append(p.Ops, op("const 7"))
						want := api.ErrArg
						if isOp(o, 3, 2) {
							want = api.OK
							right[kind]++
						} else {
							wrong[kind]++
						}
						expectError(t, "CheckProgram with "+opText(o), control.CheckProgram(p), want)
					}
				}
			}
		}
	}
	counts := map[uint8]int{1: 2, 2: 4, 3: 6, 4: 6, 5: 18, 6: 36, 7: 9, 8: 6, 9: 6}
	for kind, n := range wrong {
		if right[kind] != counts[kind] || n == 0 {
			t.Error("of the kind", kind, "there are", right[kind], "right operations")
		}
	}
	expectProgramError(t, "a sum of nothing", control.Program{Width: 8, Ops: []control.Op{{Kind: control.Add}}}, api.ErrArg)
	expectProgramError(t, "a first register that is its own", program(8, 0, "left 0 0", ""), api.ErrArg)
	expectProgramError(t, "a wrong operation behind right ones", program(8, 1, "input 0, const 1, add 1 2", ""), api.ErrArg)
	expectProgramError(t, "a wrong operation before right ones", program(8, 1, "input 1, const 1, add 0 1", ""), api.ErrArg)
}

// P9.3: kinds are numbered as the table says.
func TestKinds(t *testing.T) {
	kinds := []uint8{control.Input, control.Const, control.Add, control.Sub, control.Mul, control.Scale, control.Left, control.Min, control.Max}
	for i, kind := range kinds {
		if int(kind) != i+1 {
			t.Error("the kind", i+1, "is", kind)
		}
	}
	if control.Dead != 1 || control.Stuck != 2 || control.Blind != 3 {
		t.Error("the kinds of faults are", control.Dead, control.Stuck, control.Blind)
	}
}

// expectEval checks what Eval gives: outputs, or the place of what does not fit.
func expectEval(t *testing.T, p control.Program, in, want string, place int) {
	t.Helper()
	name := "Eval of " + programText(p) + " with [" + in + "]"
	out, at, e := control.Eval(p, ints(in))
	wantError := api.OK
	if want == "" {
		want, wantError = "[]", api.ErrRange
	}
	expectError(t, name, e, wantError)
	expect(t, name, intsText(out), want)
	expect(t, "the place of "+name, strconv.Itoa(at), strconv.Itoa(place))
}

// P9.3: values of each kind that are written out; those that just fit, and those
// that just do not.
func TestEval(t *testing.T) {
	expectEval(t, small(), "5", "[12]", 0)
	expectEval(t, small(), "60", "", 2)
	expectEval(t, small(), "-5", "[-13]", 0) // -15/2 is rounded down to -8
	for _, c := range []struct {
		width                  int
		operations, in, values string
		at                     int
	}{
		{8, "input 0, input 1, add 0 1", "100 27", "[100 27 127]", 0},
		{8, "input 0, input 1, add 0 1", "100 28", "", 2},
		{8, "input 0, input 1, add 0 1", "-100 -28", "[-100 -28 -128]", 0},
		{8, "input 0, input 1, add 0 1", "-100 -29", "", 2},
		{8, "input 0, input 1, sub 0 1", "-100 28", "[-100 28 -128]", 0},
		{8, "input 0, input 1, sub 0 1", "-100 29", "", 2},
		{8, "input 0, input 1, sub 1 0", "-100 28", "", 2},
		{8, "input 0, input 1, sub 1 0", "-100 27", "[-100 27 127]", 0},
		{8, "input 0, input 1, mul 0 1 0", "-16 8", "[-16 8 -128]", 0},
		{8, "input 0, input 1, mul 0 1 0", "16 8", "", 2},
		{8, "input 0, input 1, mul 0 1 1", "16 8", "[16 8 64]", 0},
		{8, "input 0, input 1, mul 0 1 1", "-5 3", "[-5 3 -8]", 0},
		{8, "input 0, input 1, mul 0 1 1", "5 3", "[5 3 7]", 0},
		{8, "input 0, input 1, mul 0 1 62", "-1 1", "[-1 1 -1]", 0},
		{8, "input 0, input 1, mul 0 1 62", "127 127", "[127 127 0]", 0},
		{8, "input 0, scale 0 3 1", "-5 0", "[-5 -8]", 0},
		{8, "input 0, scale 0 -3 2", "5 0", "[5 -4]", 0},
		{8, "input 0, scale 0 1 0", "-128 0", "[-128 -128]", 0},
		{8, "input 0, scale 0 -1 0", "-128 0", "", 1},
		{8, "input 0, scale 0 9223372036854775807 62", "3 0", "[3 5]", 0},
		{8, "input 0, scale 0 -9223372036854775808 62", "3 0", "[3 -6]", 0},
		{8, "input 0, scale 0 9223372036854775807 0", "0 0", "[0 0]", 0},
		{8, "input 0, scale 0 9223372036854775807 0", "2 0", "", 1},
		{8, "input 0, left 0 3", "15 0", "[15 120]", 0},
		{8, "input 0, left 0 3", "16 0", "", 1},
		{8, "input 0, left 0 3", "-16 0", "[-16 -128]", 0},
		{8, "input 0, left 0 62", "0 0", "[0 0]", 0},
		{8, "input 0, left 0 62", "4 0", "", 1},
		{8, "input 0, left 0 0", "-7 0", "[-7 -7]", 0},
		{8, "input 0, input 1, min 0 1, max 0 1", "3 -4", "[3 -4 -4 3]", 0},
		{8, "input 0, input 1, min 0 1, max 0 1", "-4 3", "[-4 3 -4 3]", 0},
		{8, "input 0, input 1, min 0 1, max 0 1", "7 7", "[7 7 7 7]", 0},
		{8, "input 1, input 0", "1 2", "[2 1]", 0},
		{8, "const 127, const -128", "0 0", "[127 -128]", 0},
		{8, "const 128", "0 0", "", 0},
		{8, "const 5, const -129", "0 0", "", 1},
		{8, "const 9223372036854775807", "0 0", "", 0},
		{8, "const -9223372036854775808", "0 0", "", 0},
		{8, "", "0 0", "[]", 0},
		{8, "", "127 -128", "[]", 0},
		{8, "", "0 128", "", -1},
		{8, "", "-129 0", "", -1},
		{8, "const 128", "0 128", "", -1},
		{8, "const 0", "9223372036854775807 0", "", -1},
		{8, "const 0", "0 -9223372036854775808", "", -1},
		{2, "input 0, const 1, add 0 1", "-2 0", "[-2 1 -1]", 0},
		{2, "input 0, const 1, add 0 1", "1 0", "", 2},
		{2, "input 0, left 0 1", "-1 0", "[-1 -2]", 0},
		{2, "", "2 0", "", -1},
		{2, "", "-3 0", "", -1},
		{62, "input 0, input 1, add 0 1", "2305843009213693951 -1", "[2305843009213693951 -1 2305843009213693950]", 0},
		{62, "input 0, input 1, add 0 1", "2305843009213693951 1", "", 2},
		{62, "input 0, input 1, add 0 1", "-2305843009213693952 -2305843009213693952", "", 2},
		{62, "input 0", "2305843009213693952 0", "", -1},
		{62, "input 0", "-2305843009213693953 0", "", -1},
		{62, "input 0, mul 0 0 62", "-2305843009213693952 0", "[-2305843009213693952 1152921504606846976]", 0},
		{62, "input 0, mul 0 0 62", "2305843009213693951 0", "[2305843009213693951 1152921504606846975]", 0},
		{62, "input 0, mul 0 0 0", "-2305843009213693952 0", "", 1},
		{62, "input 0, mul 0 0 61", "-2305843009213693952 0", "", 1},
		{62, "input 0, input 1, mul 0 1 61", "-2305843009213693952 2305843009213693951", "[-2305843009213693952 2305843009213693951 -2305843009213693951]", 0},
		{62, "input 0, mul 0 0 0", "4294967296 0", "", 1}, // 2^64
		{62, "input 0, left 0 62", "4 0", "", 1},          // 2^64
	} {
		p := program(c.width, 2, c.operations, "")
		for i := range p.Ops {
			p.Outputs = append(p.Outputs, i)
		}
		expectEval(t, p, c.in, c.values, c.at)
	}
}

// P9.3: outputs in their order; a value that no output needs, and that does not
// fit; programs of MaxOps operations and of none.
func TestOutputs(t *testing.T) {
	expectEval(t, program(8, 1, "input 0, const 4, mul 0 1 0", "2 0 2 1"), "3", "[12 3 12 4]", 0)
	expectEval(t, program(8, 1, "input 0, const 4, mul 0 1 0", ""), "3", "[]", 0)
	expectEval(t, program(8, 1, "input 0, const 4, mul 0 1 0, const 999", "0"), "90", "", 2)
	expectEval(t, program(8, 1, "const 999, input 0, const 4, mul 1 2 0", "1"), "90", "", 0)
	long := program(16, 1, "input 0", "255 254")
	for i := range api.MaxOps - 1 {
		long.Ops = append(long.Ops, control.Op{Kind: control.Add, A: i})
	}
	expectEval(t, long, "127", "[32512 32385]", 0)
	expectEval(t, long, "-128", "[-32768 -32640]", 0)
	expectEval(t, long, "129", "", 254)
	expectEval(t, program(2, 0, "", ""), "", "[]", 0)
}

// P9.3: as many inputs as the program has.
func TestInputCounts(t *testing.T) {
	for n := range 5 {
		want := api.ErrArg
		if n == 2 {
			want = api.OK
		}
		p := program(8, 2, "input 1", "0")
		name := " of " + strconv.Itoa(n) + " inputs"
		_, _, e := control.Eval(p, make([]int64, n))
		expectError(t, "Eval"+name, e, want)
		_, _, e = control.Ranges(p, make([]control.Range, n))
		expectError(t, "Ranges"+name, e, want)
		_, e = control.Ideal(p, make([]exact.Q, n))
		expectError(t, "Ideal"+name, e, want)
		_, e = control.Bounds(p, make([]control.Range, n), make([]exact.Q, 2))
		expectError(t, "Bounds"+name, e, want)
		_, e = control.Bounds(p, make([]control.Range, 2), make([]exact.Q, n))
		expectError(t, "Bounds"+name, e, want)
	}
	// What does not fit is an error behind it.
	p := program(8, 1, "const 999", "")
	_, at, e := control.Eval(p, ints("999 0"))
	expectError(t, "Eval of too many inputs that do not fit", e, api.ErrArg)
	expect(t, "the place of Eval of too many inputs", strconv.Itoa(at), "0")
}

// value returns what an operation gives, by math/big, before it is rounded.
func value(o control.Op, r []*big.Rat, in []*big.Rat) *big.Rat {
	k := new(big.Rat).SetInt64(o.K)
	part := new(big.Rat).SetFrac(big.NewInt(1), new(big.Int).Lsh(big.NewInt(1), uint(o.Shift)))
	gives := new(big.Rat)
	switch o.Kind {
	case control.Input:
		gives.Set(in[o.A])
	case control.Const:
		gives.Set(k)
	case control.Add:
		gives.Add(r[o.A], r[o.B])
	case control.Sub:
		gives.Sub(r[o.A], r[o.B])
	case control.Mul:
		gives.Mul(part, gives.Mul(r[o.A], r[o.B]))
	case control.Scale:
		gives.Mul(part, gives.Mul(r[o.A], k))
	case control.Left:
		gives.Quo(r[o.A], part)
	case control.Min, control.Max:
		gives.Set(r[o.A])
		if (r[o.B].Cmp(r[o.A]) > 0) == (o.Kind == control.Max) {
			gives.Set(r[o.B])
		}
	}
	return gives
}

// floor returns the greatest integer that is at most a number.
func floor(r *big.Rat) *big.Rat {
	quotient, _ := new(big.Int).DivMod(r.Num(), r.Denom(), new(big.Int))
	return new(big.Rat).SetInt(quotient)
}

// fits reports whether an integer fits a width.
func fits(r *big.Rat, width int) bool {
	n := r.Num()
	if n.Sign() < 0 {
		n = new(big.Int).Not(n)
	}
	return n.BitLen() < width
}

// evaluated returns what a program gives by math/big: outputs, or the place of
// what does not fit.
func evaluated(p control.Program, in []int64) (string, int) {
	var inputs, registers []*big.Rat
	for _, n := range in {
		inputs = append(inputs, new(big.Rat).SetInt64(n))
		if !fits(inputs[len(inputs)-1], p.Width) {
			return "", -1
		}
	}
	for i, o := range p.Ops {
		registers = append(registers, floor(value(o, registers, inputs)))
		if !fits(registers[i], p.Width) {
			return "", i
		}
	}
	var out []int64
	for _, place := range p.Outputs {
		out = append(out, registers[place].Num().Int64())
	}
	return intsText(out), 0
}

// P9.3: programs that look random, compared with math/big.
func TestRandomEval(t *testing.T) {
	s := source(930)
	places := map[int]int{}
	for range 3000 {
		p := s.program()
		expectError(t, "CheckProgram of "+programText(p), control.CheckProgram(p), api.OK)
		in := s.inputs(p)
		want, at := evaluated(p, in)
		expectEval(t, p, trim(intsText(in)), want, at)
		if want != "" {
			at = 99
		}
		places[at]++
	}
	if places[99] < 1000 || places[-1] < 30 || places[1] < 100 || places[5] < 20 {
		t.Error("the places of what does not fit:", places)
	}
}

// trim returns a text without its brackets.
func trim(s string) string { return s[1 : len(s)-1] }

// P9.3: a valid program that is altered in one place.
func TestAlteredPrograms(t *testing.T) {
	s := source(931)
	right, wrong := 0, 0
	for range 3000 {
		p := s.program()
		i := s.below(len(p.Ops))
		o := p.Ops[i]
		switch s.below(5) {
		case 0:
			o.Kind = uint8(s.below(11))
		case 1:
			o.A += s.below(5) - 2
		case 2:
			o.B += s.below(5) - 2
		case 3:
			o.K += int64(s.below(3))
		case 4:
			o.Shift += uint8(s.below(100))
		}
		p.Ops = with(p.Ops, i, o)
		want := api.ErrArg
		if isOp(o, i, p.Inputs) {
			want = api.OK
			right++
		} else {
			wrong++
		}
		expectError(t, "CheckProgram of "+programText(p), control.CheckProgram(p), want)
	}
	if right < 300 || wrong < 300 {
		t.Error("only", right, "right and", wrong, "wrong programs")
	}
}
