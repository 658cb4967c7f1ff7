package control

import (
	"slices"

	"amble/api"
	"amble/exact"
)

// span is a range whose ends may not fit.
type span struct{ low, high exact.Q }

// spread returns the rule for ranges of a rule for numbers: from the least to
// the greatest of what it gives for the ends. (Between the ends of one register
// no rule gives more than at both of them, nor less.)
func spread(value rule[exact.Q]) rule[span] {
	return func(o Op, a, b span) span {
		l := []exact.Q{
			value(o, a.low, b.low), value(o, a.low, b.high),
			value(o, a.high, b.low), value(o, a.high, b.high),
		}
		return span{exact.Min(l...), exact.Max(l...)}
	}
}

// spans returns the ranges of all operations.
func (p Program) spans(in []Range) ([]span, int, api.Errno) {
	var inputs []span
	for _, r := range in {
		inputs = append(inputs, span{exact.Int(r.Low), exact.Int(r.High)})
	}
	rules := map[uint8]rule[span]{}
	for kind, value := range numbers(exact.Q.Floor) {
		rules[kind] = spread(value)
	}
	fit := func(s span) bool { return p.fits(s.low) && p.fits(s.high) }
	return run(p, inputs, rules, fit)
}

// checkRanges returns ErrArg if the program is not valid, or these are not
// ranges of its inputs.
func checkRanges(p Program, in []Range) api.Errno {
	isWrong := func(r Range) bool { return r.Low > r.High }
	if checkWith(p, len(in)) != api.OK || slices.ContainsFunc(in, isWrong) {
		return api.ErrArg
	}
	return api.OK
}

// Ranges returns the ranges of all operations; or ErrRange and the place of the
// first one with an end that does not fit, -1 if one of an input does not.
func Ranges(p Program, in []Range) (out []Range, at int, e api.Errno) {
	if e := checkRanges(p, in); e != api.OK {
		return nil, 0, e
	}
	registers, at, e := p.spans(in)
	for _, s := range registers {
		low, _ := s.low.Int64()
		high, _ := s.high.Int64()
		out = append(out, Range{low, high})
	}
	return out, at, e
}

// most returns the greatest absolute value in the range.
func (s span) most() exact.Q { return exact.Max(s.low.Abs(), s.high.Abs()) }

// bounds returns the rules for bounds, for the ranges of all operations.
func bounds(spans []span) map[uint8]rule[exact.Q] {
	shifted := func(bound exact.Q, o Op) exact.Q {
		if o.Shift == 0 {
			return bound
		}
		return over(bound, power(int(o.Shift))).Add(exact.Int(1))
	}
	sum := func(_ Op, a, b exact.Q) exact.Q { return a.Add(b) }
	greater := func(_ Op, a, b exact.Q) exact.Q { return exact.Max(a, b) }
	return map[uint8]rule[exact.Q]{
		Const: func(Op, exact.Q, exact.Q) exact.Q { return exact.Q{} },
		Add:   sum,
		Sub:   sum,
		Mul: func(o Op, a, b exact.Q) exact.Q {
			first, second := spans[o.A].most(), spans[o.B].most()
			return shifted(exact.Sum(first.Mul(b), second.Mul(a), a.Mul(b)), o)
		},
		Scale: func(o Op, a, _ exact.Q) exact.Q { return shifted(exact.Int(o.K).Abs().Mul(a), o) },
		Left:  func(o Op, a, _ exact.Q) exact.Q { return a.Mul(power(int(o.Shift))) },
		Min:   greater,
		Max:   greater,
	}
}

// Bounds returns the bounds of all operations.
func Bounds(p Program, in []Range, off []exact.Q) ([]exact.Q, api.Errno) {
	isWrong := func(q exact.Q) bool { return q.Sign() < 0 }
	if checkRanges(p, in) != api.OK || len(off) != p.Inputs || slices.ContainsFunc(off, isWrong) {
		return nil, api.ErrArg
	}
	spans, _, e := p.spans(in)
	if e != api.OK {
		return nil, e
	}
	registers, _, e := run(p, off, bounds(spans), anyFits)
	return registers, e
}
