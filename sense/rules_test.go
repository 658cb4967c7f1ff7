package sense_test

import (
	"maps"
	"math"
	"slices"
	"strconv"
	"strings"
	"sync"
	"testing"

	"amble/api"
	"amble/exact"
	"amble/hull"
	"amble/sense"
)

// P1, P2 and the rules of the document that concern all calls of the layer.

// arguments are those of all calls; each call takes some of them.
type arguments struct {
	intervals       []sense.Interval
	reports         []hull.Poly
	rivals          []hull.Poly // reports that contradict each other
	f               int
	enclosure       hull.Poly
	model           sense.Model
	rounds          [][]hull.Poly
	touches         []sense.Touch
	soil            sense.Soil
	peak, load      exact.Q
	loads           []exact.Q
	yield           exact.Q
	records         []sense.Record
	tolerance       exact.Q
	candidates      []exact.Q
	set             hull.Poly
	feet, lies, few int // how many switches, reports, and intervals are wrong
}

func (a arguments) all() string {
	text := []string{
		intervalsText(a.intervals), polysText(a.reports), polysText(a.rivals), polyText(a.enclosure), modelText(a.model), touchesText(a.touches),
		soilText(a.soil), numsText(a.loads), recordsText(a.records), numsText(a.candidates), polyText(a.set),
		numsText([]exact.Q{a.peak, a.load, a.yield, a.tolerance}),
	}
	for _, l := range a.rounds {
		text = append(text, polysText(l))
	}
	return strings.Join(text, "|")
}

// result is what a call gave: its memory, other values, and its error.
type result struct {
	intervals []sense.Interval
	polys     []hull.Poly
	places    [][]int
	list      []exact.Q
	worlds    []uint32
	more      string
	e         api.Errno
}

func (r result) values() string {
	text := []string{intervalsText(r.intervals), polysText(r.polys), numsText(r.list), masksText(r.worlds), r.more}
	for _, l := range r.places {
		text = append(text, placesText(l))
	}
	return strings.Join(text, "|")
}

func (r result) all() string { return r.values() + "|" + strconv.Itoa(int(r.e)) }

func ofPoly(p hull.Poly, e api.Errno) result { return result{polys: []hull.Poly{p}, e: e} }

func ofPolys(l []hull.Poly, e api.Errno) result { return result{polys: l, e: e} }

func ofNumbers(l []exact.Q, e api.Errno) result { return result{list: l, e: e} }

func ofNumber(q exact.Q, e api.Errno) result { return result{more: q.Text(), e: e} }

// calls returns all calls of the layer with these arguments.
func calls(a arguments) map[string]func() result {
	return map[string]func() result{
		"Agree":  func() result { l, e := sense.Agree(a.intervals, a.few); return result{intervals: l, e: e} },
		"Fuse":   func() result { return ofPoly(sense.Fuse(a.reports, a.lies)) },
		"Update": func() result { return ofPoly(sense.Update(a.enclosure, a.reports, a.lies)) },
		"Liars": func() result {
			sure, maybe, e := sense.Liars(a.reports, a.lies)
			return result{places: [][]int{sure, maybe}, e: e}
		},
		"Conflict": func() result {
			which, weights, e := sense.Conflict(a.rivals)
			return result{places: [][]int{which}, list: weights, e: e}
		},
		"Predict": func() result { return ofPoly(sense.Predict(a.enclosure, a.model)) },
		"Track":   func() result { return ofPolys(sense.Track(a.enclosure, a.model, a.rounds, a.f)) },
		"Worlds":  func() result { l, e := sense.Worlds(a.touches, a.feet); return result{worlds: l, e: e} },
		"Surely": func() result {
			on, off, e := sense.Surely(a.touches, a.feet)
			return result{more: maskText(on) + " " + maskText(off), e: e}
		},
		"Depth": func() result { return ofNumber(sense.Depth(a.soil, a.peak, a.load)) },
		"Press": func() result { return ofNumbers(sense.Press(a.soil, a.loads)) },
		"Learn": func() result { return ofPoly(sense.Learn(a.yield, a.records, a.tolerance)) },
		"Yields": func() result {
			l, e := sense.Yields(a.candidates, a.records, a.tolerance)
			return result{places: [][]int{l}, e: e}
		},
		"Forecast": func() result {
			low, high, e := sense.Forecast(a.set, a.yield, a.peak, a.load)
			return result{more: low.Text() + " " + high.Text(), e: e}
		},
		"Bearing": func() result { return ofNumber(sense.Bearing(a.set, a.yield, a.peak, a.load)) },
	}
}

// zeros returns what calls with an error give.
func zeros() map[string]string {
	poly, number, two := result{polys: []hull.Poly{{}}}.values(), result{more: "0"}.values(), result{more: "0 0"}.values()
	return map[string]string{
		"Agree": result{}.values(), "Fuse": poly, "Update": poly, "Predict": poly, "Learn": poly,
		"Liars": result{places: [][]int{nil, nil}}.values(), "Conflict": result{places: [][]int{nil}}.values(),
		"Track": result{}.values(), "Worlds": result{}.values(), "Surely": two,
		"Depth": number, "Press": result{}.values(), "Yields": result{places: [][]int{nil}}.values(),
		"Forecast": two, "Bearing": number,
	}
}

// ordinary returns arguments with which all calls succeed.
func ordinary(s *source) arguments {
	n := 1 + s.below(3)
	var x []exact.Q
	a := arguments{model: s.model(n), soil: s.soil(), peak: s.load(), yield: s.load()}
	a.enclosure = first(func() hull.Poly { return s.report(n) }, func(p hull.Poly) bool { return !isVoid(p) })
	x = s.inside(a.enclosure)
	isClosed := func(p hull.Poly) bool { _, e := sense.Fuse([]hull.Poly{p}, 0); return e == api.OK }
	for range 2 + s.below(2) {
		a.reports = append(a.reports, first(func() hull.Poly { return s.around(x) }, isClosed))
	}
	a.lies = s.below(len(a.reports))
	a.rivals = append(boxes("0 1", "1 2", "2 3", "0 3"), s.box(1, true))
	a.rounds = [][]hull.Poly{nil, {everything(n)}, nil}
	a.intervals = append(intervals("0 5, 1 7, 2 9"), s.intervals(2)...)
	a.few = 2 + s.below(3)
	a.touches = s.touches(5)
	a.feet = first(func() int { return s.below(6) }, func(f int) bool { _, e := sense.Worlds(a.touches, f); return e == api.OK })
	a.loads, a.tolerance = s.loads(5), s.one("0 1/10 1")
	own := a.soil
	own.Yield = a.yield
	a.records = s.measured(own, a.loads, a.tolerance)
	a.candidates = append(s.loads(3), a.yield)
	isBorne := func(p hull.Poly) bool { _, e := sense.Bearing(p, a.yield, a.peak, a.load); return e == api.OK }
	a.set = first(func() hull.Poly { p, _ := s.soils(); a.load = s.load().Mul(num("100")); return p }, isBorne)
	return a
}

// marker gives numbers no two of which are the same.
type marker int64

func (m *marker) next() exact.Q { return exact.Int(m.int()) }

func (m *marker) int() int64 { *m++; return int64(*m) }

// scribble writes into all memory of a result, everywhere something else.
func (r result) scribble() {
	m := marker(5000)
	for i := range r.list {
		r.list[i] = m.next()
	}
	for i := range r.intervals {
		r.intervals[i] = sense.Interval{Low: m.next(), High: m.next()}
	}
	for _, l := range r.places {
		for i := range l {
			l[i] = int(m.int())
		}
	}
	for i := range r.worlds {
		r.worlds[i] = uint32(m.int())
	}
	for _, p := range r.polys {
		for i := range p.Rows {
			for k := range p.Rows[i].A {
				p.Rows[i].A[k] = m.next()
			}
			p.Rows[i].B = m.next()
		}
	}
}

// isDistinct reports whether no two numbers of a result are at one place of the
// memory: each has another value after scribble.
func (r result) isDistinct() bool {
	var words []string
	for _, q := range r.list {
		words = append(words, q.Text())
	}
	for _, l := range r.places {
		for _, n := range l {
			words = append(words, strconv.Itoa(n))
		}
	}
	for _, p := range r.polys {
		for _, row := range p.Rows {
			words = append(words, row.B.Text())
			for _, q := range row.A {
				words = append(words, q.Text())
			}
		}
	}
	slices.Sort(words)
	return len(slices.Compact(slices.Clone(words))) == len(words)
}

// grow appends to all lists of a result, whose room may belong to others.
func (r result) grow() {
	_ = append(r.list, nums("777 778 779")...)
	_ = append(r.intervals, make([]sense.Interval, 3)...)
	_ = append(r.worlds, 777, 778, 779)
	_ = append(r.polys, make([]hull.Poly, 3)...)
	for _, l := range r.places {
		_ = append(l, 777, 778, 779)
	}
	for _, p := range r.polys {
		_ = append(p.Rows, make([]hull.Row, 3)...)
		for _, row := range p.Rows {
			_ = append(row.A, nums("777 778 779")...)
		}
	}
}

// R4 and P2: a result shares no memory with an argument, with another result,
// or with another part of its own; the same call gives the same.
func TestMemory(t *testing.T) {
	s := source(1090)
	for range 60 {
		a := ordinary(&s)
		before := a.all()
		for name, call := range calls(a) {
			first, second := call(), call()
			expectError(t, name, first.e, api.OK)
			want := second.all()
			expect(t, name+" again", first.all(), want)
			first.grow()
			expect(t, name+": the result after its lists have grown", first.all(), want)
			first.scribble()
			expect(t, name+": another result", second.all(), want)
			expect(t, name+": the arguments", a.all(), before)
			if !first.isDistinct() {
				t.Error(name, "gives the same memory twice in one result")
			}
		}
	}
}

// roomy returns a list with room behind it, which holds other elements, and a
// function that reports whether they are still there.
func roomy[T any](l []T, isKept func(T) bool, other T) ([]T, func() bool) {
	long := append(append([]T{}, l...), other, other, other)
	return long[:len(l)], func() bool { return !slices.ContainsFunc(long[len(l):], func(x T) bool { return !isKept(x) }) }
}

// spacious gives the lists of arguments room, and returns what looks at it.
func spacious(a *arguments) []func() bool {
	var checks []func() bool
	number := num("888")
	isNumber := func(q exact.Q) bool { return q.Cmp(number) == 0 }
	isRow := func(r hull.Row) bool { return isNumber(r.B) }
	numbers := func(l *[]exact.Q) {
		long, check := roomy(*l, isNumber, number)
		*l, checks = long, append(checks, check)
	}
	rows := func(p *hull.Poly) {
		long, check := roomy(p.Rows, isRow, hull.Row{B: number})
		p.Rows, checks = long, append(checks, check)
		for i := range p.Rows {
			numbers(&p.Rows[i].A)
		}
	}
	polys := func(l *[]hull.Poly) {
		for i := range *l {
			rows(&(*l)[i])
		}
		long, check := roomy(*l, func(p hull.Poly) bool { return p.N == 888 }, hull.Poly{N: 888})
		*l, checks = long, append(checks, check)
	}
	polys(&a.reports)
	polys(&a.rivals)
	for i := range a.rounds {
		polys(&a.rounds[i])
	}
	for _, p := range []*hull.Poly{&a.enclosure, &a.model.Noise, &a.set} {
		rows(p)
	}
	for i := range a.model.A {
		numbers(&a.model.A[i])
	}
	for _, l := range []*[]exact.Q{&a.model.B, &a.loads, &a.candidates} {
		numbers(l)
	}
	var check func() bool
	isInterval := func(i sense.Interval) bool { return isNumber(i.Low) }
	a.intervals, check = roomy(a.intervals, isInterval, sense.Interval{Low: number})
	checks = append(checks, check)
	isTouch := func(t sense.Touch) bool { return isInterval(t.Gap) }
	a.touches, check = roomy(a.touches, isTouch, sense.Touch{Gap: sense.Interval{Low: number}})
	checks = append(checks, check)
	a.records, check = roomy(a.records, func(r sense.Record) bool { return isNumber(r.Load) }, sense.Record{Load: number})
	return append(checks, check)
}

// R4: what lies behind the lists of arguments belongs to others.
func TestRoomBehindArguments(t *testing.T) {
	s := source(1091)
	for range 30 {
		a := ordinary(&s)
		checks := spacious(&a)
		for name, call := range calls(a) {
			call().grow()
			for _, isKept := range checks {
				if !isKept() {
					t.Error(name, "writes behind its arguments")
				}
			}
		}
	}
}

// P2: calls that run at the same time do not disturb each other.
func TestAtTheSameTime(t *testing.T) {
	s := source(1092)
	a := ordinary(&s)
	all := calls(a)
	want := map[string]string{}
	for name, call := range all {
		want[name] = call().all()
	}
	names := slices.Sorted(maps.Keys(all))
	var wait sync.WaitGroup
	for i := range 8 {
		wait.Go(func() {
			for k := range 3 * len(names) {
				name := names[(k+3*i)%len(names)]
				if all[name]().all() != want[name] {
					t.Error(name, "gives something else at the same time as other calls")
				}
			}
		})
	}
	wait.Wait()
}

// R3: a nil list and an empty list are the same.
func TestNilAndEmpty(t *testing.T) {
	first := arguments{enclosure: everything(0), model: sense.Model{}, soil: soil("1 2 3"), set: point(nums("1 2")...)}
	second := first
	second.intervals, second.reports, second.rivals, second.rounds = []sense.Interval{}, []hull.Poly{}, []hull.Poly{}, [][]hull.Poly{}
	second.enclosure.Rows, second.model.A, second.model.B, second.model.Noise.Rows = []hull.Row{}, exact.Mat{}, []exact.Q{}, []hull.Row{}
	second.touches, second.loads, second.records, second.candidates = []sense.Touch{}, []exact.Q{}, []sense.Record{}, []exact.Q{}
	others := calls(second)
	isArg := " Agree Fuse Update Liars Conflict "
	for name, call := range calls(first) {
		got := call()
		expect(t, name+" of empty lists", others[name]().all(), got.all())
		want := api.OK
		if strings.Contains(isArg, " "+name+" ") {
			want = api.ErrArg
		}
		expectError(t, name+" of nil lists", got.e, want)
	}
	void := []hull.Poly{{Rows: []hull.Row{{A: nil, B: num("-1")}}}, {Rows: []hull.Row{{A: []exact.Q{}, B: num("1")}}}}
	sure, _, e := sense.Liars(void, 1)
	expectOK(t, "Liars of rows without numbers", placesText(sure), e, "[0]")
	bare := [][]hull.Poly{nil, {}, {{N: 0, Rows: nil}}, {{N: 0, Rows: []hull.Row{}}}}
	got, e := sense.Track(everything(0), sense.Model{}, bare, 0)
	expectOK(t, "Track of nothing", polysText(got), e, "{0;}{0;}{0;}{0;}")
}

// oddCount returns an integer, often one that is no count.
func (s *source) oddCount() int {
	odd := []int{math.MinInt, -2, -1, 0, 1, 2, 3, 5, 6, 7, 12, 13, 64, 1 << 32, math.MaxInt}
	return odd[s.below(len(odd))]
}

// oddNumber returns a number, now and then 0 or a great one.
func (s *source) oddNumber() exact.Q {
	odd := []int64{math.MinInt64, -1000, -2, -1, 1, 2, 1 << 32, math.MaxInt64}
	n := odd[s.below(len(odd))]
	switch s.below(5) {
	case 0:
		return exact.Q{}
	case 1:
		q := exact.Int(n)
		for range s.below(3) {
			q = q.Mul(q)
		}
		return q
	case 2:
		q, _ := exact.Of(1, n)
		return q
	}
	return s.number()
}

// oddNumbers returns a list, often of the length n.
func (s *source) oddNumbers(n int) []exact.Q {
	if s.chance(10) {
		n = s.below(7)
	}
	l := make([]exact.Q, n)
	for i := range l {
		l[i] = s.oddNumber()
	}
	return l
}

// oddPoly returns a polyhedron in which some parts may be strange.
func (s *source) oddPoly(n int) hull.Poly {
	p := s.report(n)
	switch s.below(24) {
	case 0:
		p.N = s.oddCount()
	case 1:
		p.Rows = append(p.Rows, hull.Row{A: s.oddNumbers(n), B: s.oddNumber()})
	case 2:
		p.Rows = p.Rows[:s.below(len(p.Rows)+1)]
	case 3:
		p = s.box(n, true)
	case 4:
		p.Rows = times([]int{32, 33, 200, 201}[s.below(4)], hull.Row{A: axis(n, 0, num("1")), B: s.number()})
	case 5:
		p = s.report(1 + s.below(6))
	}
	return p
}

// oddPolys returns a list of them.
func (s *source) oddPolys(most, n int) []hull.Poly {
	var l []hull.Poly
	for range s.below(most + 1) {
		l = append(l, s.oddPoly(n))
	}
	if s.chance(30) {
		l = times(6+s.below(2), s.oddPoly(n))
	}
	return l
}

// strangePolys sets the arguments that have polyhedra.
func (s *source) strangePolys(a *arguments) {
	n := 1 + s.below(3)
	a.reports, a.rivals, a.enclosure = s.oddPolys(3, n), s.oddPolys(4, n), s.oddPoly(n)
	a.model = s.model(n)
	switch s.below(10) {
	case 0:
		a.model.A = append(a.model.A, s.oddNumbers(n))
	case 1:
		a.model.A[0] = s.oddNumbers(n)
	case 2:
		a.model.B = s.oddNumbers(n)
	case 3:
		a.model.Noise = s.oddPoly(n)
	}
	for range s.below(4) {
		a.rounds = append(a.rounds, s.oddPolys(2, n))
	}
	if s.chance(30) {
		a.rounds = make([][]hull.Poly, 16+s.below(2))
	}
	a.set, _ = s.soils()
	if s.chance(3) {
		a.set = s.oddPoly(2)
	}
}

// strange returns any arguments.
func (s *source) strange() arguments {
	var a arguments
	s.strangePolys(&a)
	a.f, a.lies, a.feet, a.few = s.below(3), s.below(3), s.below(6), s.below(5)
	a.intervals, a.touches = s.intervals(s.below(6)), s.touches(s.below(7))
	a.soil, a.peak, a.load, a.yield, a.tolerance = s.soil(), s.load(), s.load(), s.load(), s.load()
	a.loads, a.candidates = s.loads(s.below(6)), s.loads(s.below(4))
	a.records = s.measured(a.soil, a.loads, a.tolerance)
	for _, q := range []*exact.Q{&a.soil.Give, &a.soil.Sink, &a.soil.Yield, &a.peak, &a.load, &a.yield, &a.tolerance} {
		if s.chance(12) {
			*q = s.oddNumber()
		}
	}
	for _, l := range [][]exact.Q{a.loads, a.candidates} {
		if len(l) > 0 && s.chance(6) {
			l[0] = s.oddNumber()
		}
	}
	if len(a.intervals) > 0 && s.chance(6) {
		a.intervals[0].Low = s.oddNumber()
		a.touches = append(a.touches, sense.Touch{Gap: a.intervals[0], Says: true})
	}
	for i := range a.records {
		if s.chance(12) {
			a.records[i] = sense.Record{Load: s.oddNumber(), Depth: s.oddNumber()}
		}
	}
	for _, n := range []*int{&a.f, &a.lies, &a.feet, &a.few} {
		if s.chance(8) {
			*n = s.oddCount()
		}
	}
	return a
}

// P1 and R2: no call panics, and with an error every other result is zero.
func TestStrangeArguments(t *testing.T) {
	s := source(1093)
	failures, successes := map[string]int{}, map[string]int{}
	zero := zeros()
	for range 900 {
		a := s.strange()
		before := a.all()
		for name, call := range calls(a) {
			r := call()
			expect(t, name+": the arguments", a.all(), before)
			if r.e == api.OK {
				successes[name]++
				continue
			}
			failures[name]++
			expect(t, name+" with an error", r.values(), zero[name])
		}
	}
	for name := range zero {
		if successes[name] < 90 || failures[name] < 90 {
			t.Error(name, "failed", failures[name], "times, and did not", successes[name], "times")
		}
	}
}

// P1: numbers of any size.
func TestGreatNumbers(t *testing.T) {
	great := num("1" + strings.Repeat("0", 300))
	small := over(num("1"), great)
	one := num("1")
	l := []sense.Interval{{Low: great.Neg(), High: one}, {Low: one.Add(small), High: great}, {Low: one, High: one.Add(small)}}
	got, e := sense.Agree(l, 1)
	expectOK(t, "Agree of what nearly touches", intervalsText(got), e, intervalsText([]sense.Interval{{Low: one, High: one}, {Low: one.Add(small), High: one.Add(small)}}))
	reports := []hull.Poly{point(great, small), point(great.Neg(), small)}
	p, e := sense.Fuse(reports, 1)
	want := hull.Poly{N: 2, Rows: []hull.Row{
		{A: nums("0 1"), B: small}, {A: nums("0 -1"), B: small.Neg()}, {A: nums("-1 0"), B: great}, {A: nums("1 0"), B: great},
	}}
	expectOK(t, "Fuse of what is far apart", polyText(p), e, polyText(want))
	_, _, e = sense.Conflict([]hull.Poly{{N: 1, Rows: []hull.Row{{A: nums("1"), B: one}}}, {N: 1, Rows: []hull.Row{{A: nums("-1"), B: one.Neg().Sub(small)}}}})
	expectError(t, "Conflict of what nearly touches", e, api.OK)
	m := sense.Model{A: exact.Mat{{great}}, B: []exact.Q{small}, Noise: point(small.Neg())}
	p, e = sense.Predict(point(great), m)
	expectOK(t, "Predict of a great number", polyText(p), e, canonText(point(great.Mul(great))))
	depth, e := sense.Depth(sense.Soil{Give: small, Sink: great, Yield: great}, great.Add(small), great)
	expectOK(t, "Depth just above the yield", depth.Text(), e, exact.Sum(one, one, small.Mul(small).Neg()).Text())
	bearing, e := sense.Bearing(point(small, great), great, exact.Q{}, depth)
	expectOK(t, "Bearing just above the yield", bearing.Text(), e, great.Add(over(one.Sub(small.Mul(small)), great)).Text())
	worlds, e := sense.Worlds([]sense.Touch{{Gap: sense.Interval{Low: small, High: great}}, {Gap: sense.Interval{Low: small.Neg(), High: small}}}, math.MaxInt)
	expectOK(t, "Worlds of small gaps", masksText(worlds), e, "[0 2]")
}

// The chapter's examples, and the document's.
func TestExamples(t *testing.T) {
	expectAgree(t, "0 4, 3 6, 5 8", 1, "3 4, 5 6")
	expectAgreeError(t, "0 4, 3 6, 5 8", 0, api.ErrVoid)
	expectAgree(t, "0 4, 3 6, 5 8", 2, "0 8")
	expectConflict(t, []hull.Poly{poly(1, "1 1"), poly(1, "1 3"), poly(1, "-1 -2")}, "0 2")
	three := "-1 0 no, 1 2 yes, -1 1 yes"
	expectWorlds(t, three, 2, "5", 5, 2)
	expectWorlds(t, three, 3, "1 5", 1, 2)
	expectPress(t, "1/1000 1/100 100", "50 200 50", "1/20 11/10 19/20")
	expectLearn(t, "100", "50 1/20, 200 11/10", "0", point(nums("1/1000 1/100")...))
	learned, _ := sense.Learn(num("100"), records("50 1/20, 200 11/10"), exact.Q{})
	expectBearing(t, learned, "100", "0", "1/10", "100")
}
