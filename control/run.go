package control

import (
	"slices"

	"amble/api"
	"amble/exact"
)

// rule gives what an operation of a kind gives for what the registers A and B
// hold.
type rule[T any] func(o Op, a, b T) T

// misfit is the place of a value that does not fit; -1: it is an input.
type misfit int

// run returns what the registers of a valid program hold in the end. If an
// input or a value does not fit, it returns ErrRange and the place. (Registers
// that are not used count as register 0, and nobody looks at them.)
func run[T any](p Program, in []T, rules map[uint8]rule[T], fits func(T) bool) (registers []T, at int, e api.Errno) {
	defer func() {
		if place, ok := recover().(misfit); ok {
			registers, at, e = nil, int(place), api.ErrRange
		}
	}()
	fitting := func(place int, value T) T {
		if !fits(value) {
			panic(misfit(place))
		}
		return value
	}
	for _, value := range in {
		fitting(-1, value)
	}
	registers = make([]T, len(p.Ops))
	for i, o := range p.Ops {
		if o.Kind == Input {
			registers[i] = in[o.A]
			continue
		}
		registers[i] = fitting(i, rules[o.Kind](o, registers[o.A], registers[o.B]))
	}
	return registers, 0, api.OK
}

// anyFits is for numbers that no width bounds.
func anyFits(exact.Q) bool { return true }

// numbers returns the rules for numbers. What is divided goes through round.
func numbers(round func(exact.Q) exact.Q) map[uint8]rule[exact.Q] {
	shifted := func(product exact.Q, o Op) exact.Q { return round(over(product, power(int(o.Shift)))) }
	return map[uint8]rule[exact.Q]{
		Const: func(o Op, _, _ exact.Q) exact.Q { return exact.Int(o.K) },
		Add:   func(_ Op, a, b exact.Q) exact.Q { return a.Add(b) },
		Sub:   func(_ Op, a, b exact.Q) exact.Q { return a.Sub(b) },
		Mul:   func(o Op, a, b exact.Q) exact.Q { return shifted(a.Mul(b), o) },
		Scale: func(o Op, a, _ exact.Q) exact.Q { return shifted(a.Mul(exact.Int(o.K)), o) },
		Left:  func(o Op, a, _ exact.Q) exact.Q { return a.Mul(power(int(o.Shift))) },
		Min:   func(_ Op, a, b exact.Q) exact.Q { return exact.Min(a, b) },
		Max:   func(_ Op, a, b exact.Q) exact.Q { return exact.Max(a, b) },
	}
}

// ints returns integers as numbers.
func ints(l []int64) []exact.Q {
	numbers := make([]exact.Q, len(l))
	for i, n := range l {
		numbers[i] = exact.Int(n)
	}
	return numbers
}

// Eval returns the outputs; or ErrRange and the place of the first operation
// whose value does not fit, -1 if an input does not.
func Eval(p Program, in []int64) (out []int64, at int, e api.Errno) {
	if e := checkWith(p, len(in)); e != api.OK {
		return nil, 0, e
	}
	registers, at, e := run(p, ints(in), numbers(exact.Q.Floor), p.fits)
	if e != api.OK {
		return nil, at, e
	}
	for _, place := range p.Outputs {
		n, _ := registers[place].Int64()
		out = append(out, n)
	}
	return out, 0, api.OK
}

// lean returns the program with the operations on which no output depends
// replaced: their values may be great.
func (p Program) lean() Program {
	isNeeded := make([]bool, len(p.Ops))
	for _, place := range p.Outputs {
		isNeeded[place] = true
	}
	p.Ops = slices.Clone(p.Ops)
	for i, o := range slices.Backward(p.Ops) {
		switch {
		case !isNeeded[i]:
			p.Ops[i] = Op{Kind: Const}
		case o.Kind != Input && o.Kind != Const:
			isNeeded[o.A], isNeeded[o.B] = true, true
		}
	}
	return p
}

// Ideal returns the ideal values of the outputs.
func Ideal(p Program, in []exact.Q) ([]exact.Q, api.Errno) {
	if e := checkWith(p, len(in)); e != api.OK {
		return nil, e
	}
	keep := func(q exact.Q) exact.Q { return q }
	registers, _, _ := run(p.lean(), in, numbers(keep), anyFits)
	var out []exact.Q
	for _, place := range p.Outputs {
		out = append(out, registers[place])
	}
	return out, api.OK
}
