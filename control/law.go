package control

import (
	"amble/api"
	"amble/exact"
)

// maxFrac is how fine the factors of a law may be.
const maxFrac = 40

// columns returns the number of inputs of a valid law.
func (l Law) columns() int {
	if len(l.K) == 0 {
		return 0
	}
	return len(l.K[0])
}

// isValid reports whether all parts of a law fit together, and no limit is above
// the one that it goes with.
func (l Law) isValid() bool {
	rows, columns := len(l.K), l.columns()
	if len(l.C) != rows || len(l.Low) != rows || len(l.High) != rows {
		return false
	}
	for i, row := range l.K {
		if len(row) != columns || l.Low[i].Cmp(l.High[i]) > 0 {
			return false
		}
	}
	return true
}

// writer writes the program of a law. It has gone beyond the limits if a number
// does not fit, or there is none between two others.
type writer struct {
	Program
	frac     int
	isBeyond bool
}

// put adds an operation and returns its place.
func (w *writer) put(o Op) int {
	w.Ops = append(w.Ops, o)
	return len(w.Ops) - 1
}

// whole returns an integer that should fit.
func (w *writer) whole(q exact.Q) int64 {
	w.isBeyond = w.isBeyond || !w.fits(q)
	n, _ := q.Int64()
	return n
}

// fixed returns the fixed-point number that is nearest to a number.
func (w *writer) fixed(q exact.Q) int64 { return w.whole(q.Mul(power(w.frac)).Round()) }

// sum adds the operations for a row of K and a number of C, and returns where
// their sum is.
func (w *writer) sum(factors []exact.Q, constant exact.Q) int {
	place := w.put(Op{Kind: Const, K: w.fixed(constant)})
	for j, factor := range factors {
		in := w.put(Op{Kind: Input, A: j})
		part := w.put(Op{Kind: Scale, A: in, K: w.fixed(factor)})
		place = w.put(Op{Kind: Add, A: place, B: part})
	}
	return w.put(Op{Kind: Scale, A: place, K: 1, Shift: uint8(w.frac)})
}

// limit adds the operations that bring what is at a place between two numbers,
// and returns where that is.
func (w *writer) limit(place int, low, high exact.Q) int {
	least, greatest := low.Ceil(), high.Floor()
	w.isBeyond = w.isBeyond || least.Cmp(greatest) > 0
	end := func(kind uint8, limit exact.Q) {
		at := w.put(Op{Kind: Const, K: w.whole(limit)})
		place = w.put(Op{Kind: kind, A: place, B: at})
	}
	end(Max, least)
	end(Min, greatest)
	return place
}

// Compile returns the program of the law, with factors that are multiples of
// 2^-frac.
func Compile(l Law, width, frac int) (Program, api.Errno) {
	switch {
	case !l.isValid():
		return Program{}, api.ErrArg
	case frac < 0 || frac > maxFrac || !isWidth(width):
		return Program{}, api.ErrRange
	}
	w := writer{Program: Program{Width: width, Inputs: l.columns()}, frac: frac}
	for i, factors := range l.K {
		sum := w.sum(factors, l.C[i])
		w.Outputs = append(w.Outputs, w.limit(sum, l.Low[i], l.High[i]))
	}
	if w.Inputs > api.MaxInputs || len(w.Ops) > api.MaxOps || w.isBeyond {
		return Program{}, api.ErrLimit
	}
	return w.Program, api.OK
}
