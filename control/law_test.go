package control_test

import (
	"math"
	"strconv"
	"testing"

	"amble/api"
	"amble/control"
	"amble/exact"
)

// P9.6: programs that are written out.
func TestCompile(t *testing.T) {
	for _, c := range []struct {
		name, law           string
		width, frac, inputs int
		operations, outputs string
	}{
		{
			"the example", "5/2 -1 -20 20", 16, 4, 1,
			"const -16, input 0, scale 1 40 0, add 0 2, scale 3 1 4, const -20, max 4 5, const 20, min 6 7", "8",
		},
		{
			"two rows and columns", "1 2 3 -5 5, -1 1/2 0 0 9/2", 8, 1, 2,
			"const 6, input 0, scale 1 2 0, add 0 2, input 1, scale 4 4 0, add 3 5, scale 6 1 1, const -5, max 7 8, const 5, min 9 10, " +
				"const 0, input 0, scale 13 -2 0, add 12 14, input 1, scale 16 1 0, add 15 17, scale 18 1 1, const 0, max 19 20, const 4, min 21 22",
			"11 23",
		},
		{"no column", "7/4 -1/2 5/2", 8, 3, 0, "const 14, scale 0 1 3, const 0, max 1 2, const 2, min 3 4", "5"},
		{"no row", "", 8, 3, 0, "", ""},
		{"frac 0", "3/2 5/2 -7/2 7/2", 8, 0, 1, "const 2, input 0, scale 1 2 0, add 0 2, scale 3 1 0, const -3, max 4 5, const 3, min 6 7", "8"},
		{"halves that are rounded to the even one", "5/4 -3/4 0 0", 8, 1, 1, "const -2, input 0, scale 1 2 0, add 0 2, scale 3 1 1, const 0, max 4 5, const 0, min 6 7", "8"},
		{"limits that are equal", "0 1 3 3", 8, 1, 1, "const 2, input 0, scale 1 0 0, add 0 2, scale 3 1 1, const 3, max 4 5, const 3, min 6 7", "8"},
		{"limits with just one integer between them", "0 1 5/2 7/2", 8, 1, 1, "const 2, input 0, scale 1 0 0, add 0 2, scale 3 1 1, const 3, max 4 5, const 3, min 6 7", "8"},
	} {
		l := law(c.law)
		want := program(c.width, c.inputs, c.operations, c.outputs)
		got, e := control.Compile(l, c.width, c.frac)
		expectOK(t, "Compile: "+c.name, programText(got), e, programText(want))
		expectError(t, "CheckProgram of it", control.CheckProgram(got), api.OK)
	}
}

// written returns the program of a valid law that has one, by the chapter's
// words.
func written(l control.Law, width, frac int) control.Program {
	p := control.Program{Width: width}
	if len(l.K) > 0 {
		p.Inputs = len(l.K[0])
	}
	put := func(kind uint8, a, b int, k exact.Q, shift int) int {
		n, _ := k.Int64()
		p.Ops = append(p.Ops, control.Op{Kind: kind, A: a, B: b, K: n, Shift: uint8(shift)})
		return len(p.Ops) - 1
	}
	none, fine := exact.Q{}, power(frac)
	for i, row := range l.K {
		sum := put(control.Const, 0, 0, l.C[i].Mul(fine).Round(), 0)
		for j, q := range row {
			put(control.Input, j, 0, none, 0)
			part := put(control.Scale, len(p.Ops)-1, 0, q.Mul(fine).Round(), 0)
			sum = put(control.Add, part-2, part, none, 0)
		}
		sum = put(control.Scale, sum, 0, num("1"), frac)
		low := put(control.Const, 0, 0, l.Low[i].Ceil(), 0)
		most := put(control.Max, sum, low, none, 0)
		high := put(control.Const, 0, 0, l.High[i].Floor(), 0)
		p.Outputs = append(p.Outputs, put(control.Min, most, high, none, 0))
	}
	return p
}

// isBeyond reports whether the program of a valid law is beyond a limit.
func isBeyond(l control.Law, width, frac int) bool {
	high := power(width - 1).Sub(num("1"))
	low := power(width - 1).Neg()
	beyond, columns := false, 0
	for i, row := range l.K {
		columns = len(row)
		least, most := l.Low[i].Ceil(), l.High[i].Floor()
		numbers := []exact.Q{least, most, l.C[i].Mul(power(frac)).Round()}
		for _, q := range row {
			numbers = append(numbers, q.Mul(power(frac)).Round())
		}
		beyond = beyond || least.Cmp(most) > 0
		for _, q := range numbers {
			beyond = beyond || !isIn(low, q, high)
		}
	}
	return beyond || columns > api.MaxInputs || len(l.K)*(6+3*columns) > api.MaxOps
}

// P9.6: laws that look random, compared with a second writing.
func TestRandomCompile(t *testing.T) {
	s := source(960)
	beyond, within := 0, 0
	for range 2000 {
		l, width, frac := s.law(), []int{2, 5, 8, 16, 62}[s.below(5)], []int{0, 1, 2, 4, 40}[s.below(5)]
		got, e := control.Compile(l, width, frac)
		name := "Compile of " + lawText(l) + " with " + strconv.Itoa(width) + ", " + strconv.Itoa(frac)
		if isBeyond(l, width, frac) {
			beyond++
			expectError(t, name, e, api.ErrLimit)
			expect(t, name, programText(got), programText(control.Program{}))
			continue
		}
		within++
		expectOK(t, name, programText(got), e, programText(written(l, width, frac)))
		expectError(t, "CheckProgram, "+name, control.CheckProgram(got), api.OK)
	}
	if beyond < 300 || within < 300 {
		t.Error("only", beyond, "laws beyond the limits and", within, "within them")
	}
}

// broad returns a law of so many rows and columns.
func broad(rows, columns int) control.Law {
	row := times(columns, num("1"))
	return control.Law{
		K: times(rows, row), C: times(rows, num("1")),
		Low: times(rows, num("-3")), High: times(rows, num("3")),
	}
}

// P9.6: errors of laws, in their order.
func TestCompileErrors(t *testing.T) {
	odd, short, long, crossed := broad(2, 2), broad(2, 2), broad(2, 2), broad(2, 2)
	odd.K[1] = nums("1")
	short.C = nums("1")
	long.Low = nums("1 1 1")
	crossed.Low[1] = num("3001/1000")
	bare := broad(2, 0)
	bare.K = nil
	noHigh := broad(2, 2)
	noHigh.High = nil
	for _, c := range []struct {
		name        string
		l           control.Law
		width, frac int
		want        api.Errno
	}{
		{"as it should be", broad(2, 2), 8, 2, api.OK},
		{"rows of different lengths", odd, 8, 2, api.ErrArg},
		{"too few numbers C", short, 8, 2, api.ErrArg},
		{"too many numbers Low", long, 8, 2, api.ErrArg},
		{"no numbers High", noHigh, 8, 2, api.ErrArg},
		{"numbers without rows", bare, 8, 2, api.ErrArg},
		{"a Low above its High", crossed, 8, 2, api.ErrArg},
		{"a wrong law with a wrong frac", crossed, 8, -1, api.ErrArg},
		{"a wrong law with a wrong width", odd, 63, 2, api.ErrArg},
		{"a wrong law that is too great", control.Law{K: exact.Mat{make([]exact.Q, 17)}}, 8, 2, api.ErrArg},

		{"frac 0", broad(2, 2), 8, 0, api.OK},
		{"frac 40", broad(2, 2), 62, 40, api.OK},
		{"frac -1", broad(2, 2), 62, -1, api.ErrRange},
		{"frac 41", broad(2, 2), 62, 41, api.ErrRange},
		{"the least frac", broad(2, 2), 62, math.MinInt, api.ErrRange},
		{"the greatest frac", broad(2, 2), 62, math.MaxInt, api.ErrRange},
		{"width 3", broad(2, 2), 3, 0, api.OK},
		{"width 2", broad(1, 0), 2, 0, api.ErrLimit},
		{"width 2 of nothing", control.Law{}, 2, 0, api.OK},
		{"width 1 of nothing", control.Law{}, 1, 0, api.ErrRange},
		{"width 62", broad(2, 2), 62, 0, api.OK},
		{"width 63", broad(2, 2), 63, 0, api.ErrRange},
		{"width 1", broad(2, 2), 1, 0, api.ErrRange},
		{"the least width", broad(2, 2), math.MinInt, 0, api.ErrRange},
		{"the greatest width", broad(2, 2), math.MaxInt, 0, api.ErrRange},
		{"a wrong width of a law that is too great", broad(1, 17), 63, 0, api.ErrRange},
		{"a wrong frac of a law that is too great", broad(1, 17), 8, 41, api.ErrRange},

		{"MaxInputs columns", broad(4, api.MaxInputs), 8, 2, api.OK},
		{"one column more", broad(1, api.MaxInputs+1), 8, 2, api.ErrLimit},
		{"216 operations", broad(4, 16), 8, 2, api.OK},
		{"270 operations", broad(5, 16), 8, 2, api.ErrLimit},
		{"252 operations without columns", broad(42, 0), 8, 2, api.OK},
		{"258 operations without columns", broad(43, 0), 8, 2, api.ErrLimit},
		{"252 operations with a column", broad(28, 1), 8, 2, api.OK},
		{"261 operations with a column", broad(29, 1), 8, 2, api.ErrLimit},
		{"255 operations", broad(17, 3), 8, 2, api.OK},
		{"very many operations", broad(3000, 2), 8, 2, api.ErrLimit},
	} {
		p, e := control.Compile(c.l, c.width, c.frac)
		expectError(t, "Compile: "+c.name, e, c.want)
		if e != api.OK {
			expect(t, "Compile: "+c.name, programText(p), programText(control.Program{}))
		}
	}
}

// P9.6: constants and factors that just fit, and that just do not.
func TestCompileFit(t *testing.T) {
	for _, c := range []struct {
		law         string
		width, frac int
		want        api.Errno
	}{
		{"127/4 0 0 0", 8, 2, api.OK},
		{"1019/32 0 0 0", 8, 2, api.OK}, // 127.375
		{"255/8 0 0 0", 8, 2, api.ErrLimit},
		{"-32 0 0 0", 8, 2, api.OK},
		{"-257/8 0 0 0", 8, 2, api.OK}, // -128.5, rounded to the even one
		{"-1029/32 0 0 0", 8, 2, api.ErrLimit},
		{"32 0 0 0", 8, 2, api.ErrLimit},
		{"0 127/4 0 0", 8, 2, api.OK},
		{"0 32 0 0", 8, 2, api.ErrLimit},
		{"0 -32 0 0", 8, 2, api.OK},
		{"0 -129/4 0 0", 8, 2, api.ErrLimit},
		{"0 0 -128 127", 8, 2, api.OK},
		{"0 0 -257/2 127", 8, 2, api.OK},
		{"0 0 -129 127", 8, 2, api.ErrLimit},
		{"0 0 -128 255/2", 8, 2, api.OK},
		{"0 0 -128 128", 8, 2, api.ErrLimit},
		{"0 0 1/3 2/3", 8, 2, api.ErrLimit},
		{"0 0 -2/3 -1/3", 8, 2, api.ErrLimit},
		{"0 0 -1/3 1/3", 8, 2, api.OK},
		{"0 0 128 128", 8, 2, api.ErrLimit},
		{"0 0 -129 -129", 8, 2, api.ErrLimit},
		{"1 0 0 0, 0 0 1/3 2/3", 8, 2, api.ErrLimit},
		{"2097151 0 0 0", 62, 40, api.OK},
		{"2097152 0 0 0", 62, 40, api.ErrLimit},
		{"-2097152 0 0 0", 62, 40, api.OK},
		{"2305843009213693951 0 0 0", 62, 0, api.OK},
		{"2305843009213693952 0 0 0", 62, 0, api.ErrLimit},
		{"0 100000000000000000000000000 0 0", 62, 0, api.ErrLimit},
		{"0 0 -100000000000000000000000000 0", 62, 0, api.ErrLimit},
		{"0 0 0 18446744073709551616", 62, 0, api.ErrLimit}, // 2^64
		{"18446744073709551617 0 0 0", 62, 0, api.ErrLimit}, // 2^64 + 1
	} {
		_, e := control.Compile(law(c.law), c.width, c.frac)
		expectError(t, "Compile of "+c.law+" with "+strconv.Itoa(c.width)+", "+strconv.Itoa(c.frac), e, c.want)
	}
}
