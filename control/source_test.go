package control_test

import (
	"amble/api"
	"amble/control"
	"amble/exact"
	"amble/hull"
	"amble/machine"
)

// source gives numbers that look random; the same ones in each run.
type source uint64

func (s *source) next() uint64 {
	*s += 0x9e3779b97f4a7c15
	x := uint64(*s)
	x = (x ^ x>>30) * 0xbf58476d1ce4e5b9
	x = (x ^ x>>27) * 0x94d049bb133111eb
	return x ^ x>>31
}

func (s *source) below(n int) int { return int(s.next() % uint64(n)) }

// chance reports true about once in n times.
func (s *source) chance(n int) bool { return s.below(n) == 0 }

// one returns one of the numbers of a text.
func (s *source) one(text string) exact.Q {
	l := nums(text)
	return l[s.below(len(l))]
}

// number returns a number from -5 to 5, often an integer.
func (s *source) number() exact.Q {
	under := int64(1)
	if s.chance(2) {
		under = int64(2 + s.below(4))
	}
	q, _ := exact.Of(int64(s.below(int(10*under+1)))-5*under, under)
	return q
}

// numbers returns so many.
func (s *source) numbers(n int) []exact.Q {
	l := make([]exact.Q, n)
	for i := range l {
		l[i] = s.number()
	}
	return l
}

// positive returns a number above 0.
func (s *source) positive() exact.Q { return s.number().Abs().Add(num("1/7")) }

// part returns a number from 0 to 1, often one of the ends.
func (s *source) part() exact.Q { return s.one("0 0 1 1 1/2 1/3 3/4 1/10") }

// between returns a number from low to high, often one of them.
func (s *source) between(low, high exact.Q) exact.Q {
	return low.Add(high.Sub(low).Mul(s.part()))
}

// first returns the first of what is made that is right. It is found soon, or
// what is tested is wrong.
func first[T any](made func() T, isRight func(T) bool) T {
	for range 1000 {
		if x := made(); isRight(x) {
			return x
		}
	}
	panic("nothing that is right")
}

// box returns rows that keep each of n numbers between two others.
func (s *source) box(n int) []hull.Row {
	var l []hull.Row
	for i := range n {
		up, down := make([]exact.Q, n), make([]exact.Q, n)
		up[i], down[i] = num("1"), num("-1")
		l = append(l, hull.Row{A: up, B: s.one("1 2 3 5")}, hull.Row{A: down, B: s.one("0 1 4 -1/2")})
	}
	return l
}

// task returns a task for n numbers. Some of its rows contradict each other.
func (s *source) task(n int) control.Task {
	var t control.Task
	for range 1 + s.below(3) {
		a := s.numbers(n)
		if len(t.A) > 0 && s.chance(3) {
			copy(a, t.A[0])
		}
		t.A, t.B = append(t.A, a), append(t.B, s.number())
	}
	return t
}

// plan returns a plan of n numbers whose hard limits are bounded, and seldom
// void.
func (s *source) plan(n int) control.Plan {
	p := control.Plan{Hard: hull.Poly{N: n, Rows: s.box(n)}, Crouch: s.numbers(n)}
	for range s.below(3) {
		p.Hard.Rows = append(p.Hard.Rows, hull.Row{A: s.numbers(n), B: s.number().Abs()})
	}
	for range s.below(4) {
		p.Tasks = append(p.Tasks, s.task(n))
	}
	return p
}

// whole returns an integer that fits a width; often a great one.
func (s *source) whole(width int) int64 {
	return int64(s.next()) >> (64 - width) >> s.below(width)
}

// op returns an operation that may stand at a place.
func (s *source) op(place, inputs, width int) control.Op {
	kinds := []uint8{control.Const, control.Input, control.Add, control.Sub, control.Mul, control.Scale, control.Left, control.Min, control.Max}
	kind := kinds[s.below(len(kinds))]
	if place == 0 {
		kind = kinds[s.below(2)]
	}
	if kind == control.Input && inputs == 0 {
		kind = control.Const
	}
	o := control.Op{Kind: kind}
	use, _ := useOf(kind)
	for _, part := range use {
		switch part {
		case 'i':
			o.A = s.below(inputs)
		case 'a':
			o.A = s.below(place)
		case 'b':
			o.B = s.below(place)
		case 'k':
			o.K = s.whole(width)
		case 's':
			o.Shift = uint8(s.below(width + 1))
			if kind == control.Left {
				o.Shift = uint8(s.below(3))
			}
		}
	}
	return o
}

// program returns a valid one whose values often fit.
func (s *source) program() control.Program {
	p := control.Program{Width: []int{8, 16, 32, 60, 62}[s.below(5)], Inputs: s.below(4)}
	for place := range 1 + s.below(8) {
		p.Ops = append(p.Ops, s.op(place, p.Inputs, p.Width))
	}
	for range s.below(4) {
		p.Outputs = append(p.Outputs, s.below(len(p.Ops)))
	}
	return p
}

// inputs returns a list for a program; they fit, but for a few.
func (s *source) inputs(p control.Program) []int64 {
	l := make([]int64, p.Inputs)
	for i := range l {
		l[i] = s.whole(p.Width)
		if s.chance(40) {
			l[i] = s.whole(64)
		}
	}
	return l
}

// ranges returns ranges for a program, and integers in them.
func (s *source) ranges(p control.Program) (l []control.Range, in []int64) {
	in = s.inputs(p)
	for i, n := range in {
		r := control.Range{Low: n, High: n}
		for range s.below(3) {
			other := s.whole(p.Width)
			r = control.Range{Low: min(r.Low, other), High: max(r.High, other)}
		}
		if in[i] = r.Low; s.chance(2) {
			in[i] = []int64{r.High, n}[s.below(2)]
		}
		l = append(l, r)
	}
	return l, in
}

// law returns one of a few rows and columns.
func (s *source) law() control.Law {
	var l control.Law
	columns := s.below(4)
	for range s.below(4) {
		low, high := s.number(), s.number()
		if low.Cmp(high) > 0 {
			low, high = high, low
		}
		l.K, l.C = append(l.K, s.numbers(columns)), append(l.C, s.number())
		l.Low, l.High = append(l.Low, low), append(l.High, high.Add(s.one("0 1 10 100")))
	}
	return l
}

// heater is a motor that is governed, and its heat.
type heater struct {
	machine.Motor
	step, heat exact.Q
	delay, k   int
}

// heater returns any with an allowed beginning.
func (s *source) heater() heater {
	h := heater{step: s.positive(), delay: s.one17(), k: s.below(12)}
	h.Body, h.Torque = s.below(5)-2, s.one("0 1 2 10 100 7/3")
	h.Heating, h.Most = s.one("0 1 1/2 1/100 3"), s.positive()
	h.Cooling = over(s.part(), h.step)
	h.heat = s.between(exact.Q{}, h.Most)
	if s.chance(10) {
		h.k = api.MaxFine
	}
	return h
}

// one17 returns a delay, often a small one.
func (s *source) one17() int { return []int{0, 1, 2, 3, 7, api.MaxDelay}[s.below(6)] }

// fault returns any, in the first cycles.
func (s *source) fault() control.Fault {
	return control.Fault{Kind: uint8(s.below(4)), At: s.below(14)}
}

// rider is a rein with a place and a speed.
type rider struct {
	control.Rein
	place, speed exact.Q
	delay        int
}

// rider returns any; often it is safe.
func (s *source) rider() rider {
	r := rider{Rein: control.Rein{Low: s.number(), Most: s.positive(), Step: s.one("1 1/10 1/3 2")}, delay: s.one17()}
	r.High = r.Low.Add(s.one("0 1 10 100 1/3").Mul(s.positive()))
	r.place, r.speed = s.between(r.Low, r.High), s.number().Mul(s.one("0 1/10 1/2 1 3"))
	if s.chance(20) {
		r.place = s.number()
	}
	return r
}

// safe returns one that is safe; often just so.
func (s *source) safe() rider {
	r := first(s.rider, rider.isSafe)
	if s.chance(2) {
		for range 1 + s.below(4) { // to where its limits hold it
			a, _ := control.Hold(r.Rein, r.place, r.speed, s.one("-1000 1000"), r.delay)
			r.speed = r.speed.Add(r.Step.Mul(a))
			r.place = r.place.Add(r.Step.Mul(r.speed))
		}
	}
	return r
}

// wishes returns so many numbers, also great ones.
func (s *source) wishes(n int) []exact.Q {
	l := s.numbers(n)
	for i := range l {
		l[i] = l[i].Mul(s.one("0 1/10 1 1 20"))
	}
	if n > 0 && s.chance(2) { // often the same again and again
		for i := 1; i < n; i++ {
			if s.below(3) > 0 {
				l[i] = l[i-1]
			}
		}
	}
	return l
}

// lost returns any for a delay, in the first cycles.
func (s *source) lost(delay int) control.Lost {
	return control.Lost{At: s.below(8), Long: s.below(delay + 1)}
}
