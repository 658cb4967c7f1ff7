package contact_test

import (
	"maps"
	"math"
	"slices"
	"strconv"
	"strings"
	"sync"
	"testing"

	"amble/api"
	"amble/contact"
	"amble/exact"
	"amble/hull"
)

// P1, P2 and the rules of the document that concern all calls of the layer.

// arguments are those of all calls; each call takes some of them.
type arguments struct {
	x       contact.Problem
	p, c    []exact.Q
	word    []uint8
	refuted []uint8 // for Refute
	parts   parts
	s       contact.System
	blow    []exact.Q // for Speeds
}

func (a arguments) all() string {
	return strings.Join([]string{
		problemText(a.x), numsText(a.p), numsText(a.c), wordText(a.word), wordText(a.refuted),
		matText(a.parts.m), matText(a.parts.b), matText(a.parts.j), numsText(a.parts.v), numsText(a.parts.mu), a.parts.e.Text(),
		systemText(a.s), numsText(a.blow),
	}, "|")
}

// result is what a call gave: its memory, other values, and its error.
type result struct {
	lists  [][]exact.Q
	words  [][]uint8
	faults []contact.Fault
	rows   []hull.Row
	more   string
	e      api.Errno
}

func (r result) values() string {
	return strings.Join([]string{matText(r.lists), wordsText(r.words), faultsText(r.faults), polyText(hull.Poly{Rows: r.rows}), r.more}, "|")
}

func (r result) all() string { return r.values() + "|" + strconv.Itoa(int(r.e)) }

// ofNumbers is a result of one list of numbers.
func ofNumbers(l []exact.Q, e api.Errno) result { return result{lists: [][]exact.Q{l}, e: e} }

func ofSystem(s contact.System, e api.Errno) result {
	lists := slices.Concat([][]exact.Q{s.Problem.V, s.Problem.Mu, s.Free}, s.Problem.G, s.Lift)
	return result{lists: lists, more: s.Problem.E.Text(), e: e}
}

// refutation is what Refute gives. Which weights is not specified: of them only
// an error's are values.
func refutation(x contact.Problem, word []uint8) result {
	weights, e := contact.Refute(x, word)
	if e == api.OK {
		return result{}
	}
	return ofNumbers(weights, e)
}

// calls returns all calls of the layer with these arguments.
func calls(a arguments) map[string]func() result {
	return map[string]func() result{
		"Check":  func() result { return result{e: contact.Check(a.x)} },
		"After":  func() result { return ofNumbers(contact.After(a.x, a.p)) },
		"Mean":   func() result { return ofNumbers(contact.Mean(a.x, a.p)) },
		"Work":   func() result { q, e := contact.Work(a.x, a.p); return result{more: q.Text(), e: e} },
		"Broken": func() result { l, e := contact.Broken(a.x, a.p); return result{faults: l, e: e} },
		"Set": func() result {
			p, e := contact.Set(a.x, a.word)
			return result{rows: p.Rows, more: strconv.Itoa(p.N), e: e}
		},
		"Words":  func() result { l, e := contact.Words(a.x); return result{words: l, e: e} },
		"Refute": func() result { return refutation(a.x, a.refuted) },
		"Solve": func() result {
			o, e := contact.Solve(a.x)
			return result{words: [][]uint8{o.Word}, lists: [][]exact.Q{o.P, o.W}, e: e}
		},
		"Unique": func() result {
			is, e := contact.Unique(a.x)
			return result{more: strconv.FormatBool(is), e: e}
		},
		"Spread": func() result {
			low, high, below, above, e := contact.Spread(a.x, a.c)
			return result{more: spreadText(low, high, below, above), e: e}
		},
		"Assemble": func() result { return ofSystem(a.parts.assemble()) },
		"Speeds":   func() result { return ofNumbers(contact.Speeds(a.s, a.blow)) },
	}
}

// zeros returns what calls with an error give, where that is not nothing.
func zeros() map[string]string {
	numbers := ofNumbers(nil, 0).values()
	return map[string]string{
		"After": numbers, "Mean": numbers, "Refute": numbers, "Speeds": numbers,
		"Work":     result{more: "0"}.values(),
		"Set":      result{more: "0"}.values(),
		"Solve":    result{words: [][]uint8{nil}, lists: [][]exact.Q{nil, nil}}.values(),
		"Unique":   result{more: "false"}.values(),
		"Spread":   result{more: "0 0 false false"}.values(),
		"Assemble": result{lists: make([][]exact.Q, 3), more: "0"}.values(),
	}
}

// ordinary returns arguments with which all calls succeed.
func ordinary(s *source) arguments {
	a := arguments{parts: s.parts(2+s.below(3), s.below(3), 1+s.below(2))}
	for a.refuted == nil {
		a.x = s.leaving(1 + s.below(2))
		if _, e := contact.Solve(a.x); e != api.OK {
			continue
		}
		for _, word := range allWords(len(a.x.Mu)) {
			if _, e := contact.Refute(a.x, word); e == api.OK {
				a.refuted = word
			}
		}
	}
	a.p, a.c, a.word = s.numbers(len(a.x.V)), s.numbers(len(a.x.V)), s.word(len(a.x.Mu))
	a.s, _ = a.parts.assemble()
	a.blow = s.numbers(len(a.s.Problem.V))
	return a
}

// scribble writes into all memory of a result, everywhere something else.
func (r result) scribble() {
	n := int64(5000)
	next := func() exact.Q { n++; return exact.Int(n) }
	write := func(l []exact.Q) {
		for i := range l {
			l[i] = next()
		}
	}
	for _, l := range r.lists {
		write(l)
	}
	for i := range r.rows {
		write(r.rows[i].A)
		r.rows[i].B = next()
	}
	value := uint8(100)
	for _, word := range r.words {
		for i := range word {
			word[i] = value
			value++
		}
	}
	for i := range r.faults {
		r.faults[i] = contact.Fault{Contact: 6000 + i}
	}
}

// isDistinct reports whether no two numbers of a result are at one place of
// the memory: each has another value after scribble.
func (r result) isDistinct() bool {
	seen := map[string]bool{}
	isNew := func(text string) bool {
		known := seen[text]
		seen[text] = true
		return !known
	}
	all := slices.Concat(r.lists...)
	for _, row := range r.rows {
		all = append(all, row.A...)
	}
	for _, q := range all {
		if !isNew(q.Text()) {
			return false
		}
	}
	for _, mode := range slices.Concat(r.words...) {
		if !isNew("mode " + strconv.Itoa(int(mode))) {
			return false
		}
	}
	return true
}

// grow appends to all lists of a result, whose room may belong to others.
func (r result) grow() {
	for _, l := range r.lists {
		_ = append(l, nums("777 778 779")...)
	}
	for _, row := range r.rows {
		_ = append(row.A, nums("777 778 779")...)
	}
	for _, word := range r.words {
		_ = append(word, 77, 78, 79)
	}
	_ = append(r.words, []uint8{77})
	_ = append(r.rows, hull.Row{B: num("777")})
	_ = append(r.faults, contact.Fault{Contact: 777})
}

// R4 and P2: a result shares no memory with an argument, with another result,
// or with another part of its own; the same call gives the same.
func TestMemory(t *testing.T) {
	s := source(520)
	for range 30 {
		a := ordinary(&s)
		before := a.all()
		for name, call := range calls(a) {
			first, second := call(), call()
			expectError(t, name, first.e, api.OK)
			want := second.all()
			expect(t, name+" again", first.all(), want)
			first.grow()
			expect(t, name+": the result after its lists have grown", first.all(), want)
			first.scribble()
			expect(t, name+": another result", second.all(), want)
			expect(t, name+": the arguments", a.all(), before)
			if !first.isDistinct() {
				t.Error(name, "gives the same memory twice in one result")
			}
		}
		weights, _ := contact.Refute(a.x, a.refuted)
		_ = append(weights, num("777"))
		for i := range weights {
			weights[i] = num("888")
		}
		expect(t, "Refute: the arguments", a.all(), before)
		if weights, _ = contact.Refute(a.x, a.refuted); !isRefuted(a.x, a.refuted, weights) {
			t.Error("Refute again does not refute")
		}
	}
}

// R4: a matrix that is changed in the rows of a system, also in its list.
func TestMemoryOfMatrices(t *testing.T) {
	a, b := puck(), puck()
	s, _ := a.assemble()
	s.Lift[0], s.Problem.G[0] = nums("777 777"), nums("777 777")
	again, e := a.assemble()
	want, _ := b.assemble()
	expectOK(t, "Assemble again", systemText(again), e, systemText(want))
}

// roomy returns a list with room behind it, which holds other elements, and a
// function that reports whether they are still there.
func roomy[T any](l []T, isKept func(T) bool, other T) ([]T, func() bool) {
	long := append(append([]T{}, l...), other, other, other)
	return long[:len(l)], func() bool { return !slices.ContainsFunc(long[len(l):], func(x T) bool { return !isKept(x) }) }
}

// R4: what lies behind the lists of arguments belongs to others.
func TestRoomBehindArguments(t *testing.T) {
	s := source(521)
	number := num("888")
	isNumber := func(q exact.Q) bool { return q.Cmp(number) == 0 }
	isMode := func(mode uint8) bool { return mode == 88 }
	isRow := func(l []exact.Q) bool { return len(l) == 1 && isNumber(l[0]) }
	for range 20 {
		a := ordinary(&s)
		var checks []func() bool
		for _, l := range []*[]exact.Q{&a.x.V, &a.x.Mu, &a.p, &a.c, &a.parts.v, &a.parts.mu, &a.s.Free, &a.blow} {
			roomyList, check := roomy(*l, isNumber, number)
			*l, checks = roomyList, append(checks, check)
		}
		for _, m := range []*exact.Mat{&a.x.G, &a.parts.m, &a.parts.b, &a.parts.j, &a.s.Lift} {
			for i := range *m {
				row, check := roomy((*m)[i], isNumber, number)
				(*m)[i], checks = row, append(checks, check)
			}
			rows, check := roomy(*m, isRow, []exact.Q{number})
			*m, checks = rows, append(checks, check)
		}
		for _, word := range []*[]uint8{&a.word, &a.refuted} {
			roomyWord, check := roomy(*word, isMode, 88)
			*word, checks = roomyWord, append(checks, check)
		}
		for name, call := range calls(a) {
			call().grow()
			for _, isKept := range checks {
				if !isKept() {
					t.Error(name, "writes behind its arguments")
				}
			}
		}
	}
}

// P2: calls that run at the same time do not disturb each other.
func TestAtTheSameTime(t *testing.T) {
	s := source(522)
	a := ordinary(&s)
	all := calls(a)
	want := map[string]string{}
	for name, call := range all {
		want[name] = call().all()
	}
	names := slices.Sorted(maps.Keys(all))
	var wait sync.WaitGroup
	for i := range 8 {
		wait.Go(func() {
			for k := range names {
				name := names[(k+3*i)%len(names)]
				if all[name]().all() != want[name] {
					t.Error(name, "gives something else at the same time as other calls")
				}
			}
		})
	}
	wait.Wait()
}

// R3: a nil list and an empty list are the same.
func TestNilAndEmpty(t *testing.T) {
	none := []exact.Q{}
	empty := arguments{
		x: contact.Problem{G: exact.Mat{}, V: none, Mu: none}, p: none, c: none, word: []uint8{}, refuted: []uint8{},
		parts: parts{m: exact.Mat{}, b: exact.Mat{}, j: exact.Mat{}, v: none, mu: none},
		s:     contact.System{Problem: contact.Problem{G: exact.Mat{}, V: none, Mu: none}, Free: none, Lift: exact.Mat{}}, blow: none,
	}
	others := calls(empty)
	for name, call := range calls(arguments{}) {
		expect(t, name+" of empty lists", others[name]().all(), call().all())
		want := api.OK
		if name == "Refute" {
			want = api.ErrNone
		}
		expectError(t, name+" of nothing", call().e, want)
	}
	// A system without contacts, with rows that have no numbers.
	lift := contact.System{Free: nums("1 2"), Lift: exact.Mat{nil, {}}}
	w, e := contact.Speeds(lift, none)
	expectOK(t, "Speeds with empty rows", numsText(w), e, "[1 2]")
}

// oddNumber returns a number, now and then 0 or a great one.
func (s *source) oddNumber() exact.Q {
	odd := []int64{math.MinInt64, -1000, -2, -1, 1, 2, 1 << 32, math.MaxInt64}
	n := odd[s.below(len(odd))]
	switch s.below(5) {
	case 0:
		return exact.Q{}
	case 1:
		q := exact.Int(n)
		for range s.below(3) {
			q = q.Mul(q)
		}
		return q
	case 2:
		q, _ := exact.Of(1, n)
		return q
	}
	return s.number()
}

func (s *source) oddNumbers(n int) []exact.Q {
	if s.below(8) == 0 {
		n = s.below(12)
	}
	l := make([]exact.Q, n)
	for i := range l {
		l[i] = s.oddNumber()
	}
	return l
}

// oddMatrix returns a matrix that is now and then changed in one place.
func (s *source) oddMatrix(m exact.Mat) exact.Mat {
	if len(m) == 0 || s.below(6) > 0 {
		return m
	}
	i := s.below(len(m))
	switch s.below(4) {
	case 0:
		return m[:i]
	case 1:
		return with(m, i, s.oddNumbers(len(m[i])))
	case 2:
		return append(slices.Clone(m), nil)
	}
	return scaledMat(s.oddNumber(), m)
}

func (s *source) oddWord(n int) []uint8 {
	word := s.word(n)
	if n > 0 && s.below(6) == 0 {
		word[s.below(n)] = uint8(s.next())
	}
	if s.below(8) == 0 {
		word = append(word, 0)
	}
	return word
}

// strange returns any arguments.
func (s *source) strange() arguments {
	k := s.below(3)
	a := arguments{x: s.problem(k), parts: s.parts(s.below(4), s.below(3), k)}
	a.x.G, a.parts.m = s.oddMatrix(a.x.G), s.oddMatrix(a.parts.m)
	a.parts.b, a.parts.j = s.oddMatrix(a.parts.b), s.oddMatrix(a.parts.j)
	if s.below(3) == 0 {
		a.x.V, a.parts.v = s.oddNumbers(2*k), s.oddNumbers(len(a.parts.m))
	}
	if s.below(6) == 0 {
		a.x.Mu, a.parts.mu = s.oddNumbers(k), s.oddNumbers(k)
	}
	if s.below(6) == 0 {
		a.x.E, a.parts.e = s.oddNumber(), s.oddNumber()
	}
	a.p, a.c = s.oddNumbers(2*k), s.oddNumbers(2*k)
	a.word, a.refuted = s.oddWord(k), s.oddWord(k)
	a.s, _ = a.parts.assemble()
	a.s.Lift, a.s.Free = s.oddMatrix(a.s.Lift), s.oddNumbers(len(a.s.Free))
	a.blow = s.oddNumbers(2 * k)
	return a
}

// P1 and R2: no call panics, and with an error every other result is zero.
func TestStrangeArguments(t *testing.T) {
	s := source(523)
	failures, successes := map[string]int{}, map[string]int{}
	zero := zeros()
	for range 500 {
		a := s.strange()
		before := a.all()
		for name, call := range calls(a) {
			r := call()
			expect(t, name+": the arguments", a.all(), before)
			if r.e == api.OK {
				successes[name]++
				continue
			}
			failures[name]++
			want := zero[name]
			if want == "" {
				want = result{}.values()
			}
			expect(t, name+" with an error", r.values(), want)
		}
	}
	for name := range calls(s.strange()) {
		if failures[name] < 50 || successes[name] < 50 {
			t.Error(name, "failed", failures[name], "times, and did not", successes[name], "times")
		}
	}
}

// P1: numbers of any size.
func TestGreatNumbers(t *testing.T) {
	great := num("1" + strings.Repeat("0", 300))
	small, _ := num("1").Div(great)
	x := problem("1 0, 0 1", "-2 1", "1/4", "0")
	x.V, x.E = scaled(great, x.V), small
	expectSolved(t, "a great blow", x, "2 ", "2"+numsText(scaled(great.Add(num("1")), nums("2 -1/2")))+numsText([]exact.Q{num("2"), great.Mul(num("1/2")).Sub(num("1/2"))}), true)
	x.G, x.E = unit(2, small), exact.Q{}
	expectSolved(t, "a heavy mass", x, "2 ", "2"+numsText(scaled(great.Mul(great), nums("2 -1/2")))+numsText(scaled(great, nums("0 1/2"))), true)
	x.Mu = []exact.Q{great}
	expectSolved(t, "a rough ground", x, "1 ", "1"+numsText(scaled(great.Mul(great), nums("2 -1")))+"[0 0]", true)
}

// The chapter's examples, and the document's.
func TestExamples(t *testing.T) {
	expectSolved(t, "problem 1", first(), "2 ", "2[2 -1/2][0 1/2]", true)
	work, e := contact.Work(first(), nums("2 -1/2"))
	expectOK(t, "Work", work.Text(), e, "-19/8")
	rough := first()
	rough.Mu = nums("1")
	expectSolved(t, "problem 2", rough, "1 ", "1[2 -1][0 0]", true)
	rough.E = num("1/2")
	expectSolved(t, "problem 3", rough, "1 ", "1[3 -3/2][1 -1/2]", true)
	u, e := contact.Mean(rough, nums("3 -3/2"))
	expectOK(t, "Mean", numsText(u), e, "[0 0]")
	leaving := first()
	leaving.V = nums("1 5")
	expectSolved(t, "what leaves", leaving, "0 ", "0[0 0][1 5]", true)
	leaving.V = nums("0 0")
	expectSolved(t, "what rests", leaving, "0 1 2 3 ", "0[0 0][0 0]", true)
	words, e := contact.Words(hopeless())
	expectOK(t, "Words of no mass", wordsText(words), e, "")
	_, e = contact.Solve(hopeless())
	expectError(t, "Solve of no mass", e, api.ErrNone)
	expectSolved(t, "several solutions", several(), "0 1 2 ", "0[0 0][1 4]", false)
	expectSpread(t, "several solutions", several(), "1 0", "0 1 true true")
	for word, want := range map[uint8]string{contact.Apart: "[0 0][1 4] 0", contact.Stick: "[3 -2][0 0] -5/2", contact.Forward: "[1 -1][0 1] -2"} {
		set, e := contact.Set(several(), []uint8{word})
		expectError(t, "Set", e, api.OK)
		p, e := hull.Least(set)
		expectError(t, "Least of the set", e, api.OK)
		w, _ := contact.After(several(), p)
		work, e := contact.Work(several(), p)
		expectOK(t, "a solution", numsText(p)+numsText(w)+" "+work.Text(), e, want)
	}
	flat := contact.Problem{G: unit(4, num("1")), V: nums("-1 0 -1 0"), Mu: nums("0 0")}
	expectSolved(t, "two contacts without friction", flat, "11 12 13 21 22 23 31 32 33 ", "11[1 0 1 0][0 0 0 0]", true)
}
