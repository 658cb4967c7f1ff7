package wear_test

import (
	"maps"
	"math"
	"slices"
	"strconv"
	"strings"
	"sync"
	"testing"

	"amble/api"
	"amble/exact"
	"amble/hull"
	"amble/wear"
)

// P1, P2 and the rules of the document that concern all calls of the layer.

// arguments are those of all calls; each call takes some of them.
type arguments struct {
	d       wear.Device
	c       wear.Curve
	angle   exact.Q
	walk    []wear.Sample
	b       wear.Box
	phase   uint8
	knots   []exact.Q
	limit   wear.Limit
	wishes  []wear.Record // of a fit
	f       wear.Fitted
	records []wear.Record // of boxes
}

func (a arguments) all() string {
	return strings.Join([]string{
		deviceText(a.d), curveText(a.c), a.angle.Text(), samplesText(a.walk), boxText(a.b), phaseText(a.phase), numsText(a.knots),
		numsText([]exact.Q{a.limit.Moment, a.limit.Rate}), recordsText(a.wishes), fittedText(a.f), recordsText(a.records),
	}, "|")
}

// result is what a call gave: its memory, other values, and its error.
type result struct {
	d      wear.Device
	acts   []wear.Action
	phases []uint8
	list   []exact.Q
	f      wear.Fitted
	boxes  []wear.Box
	known  []bool
	mixed  [][2]int
	more   string
	e      api.Errno
}

func (r result) values() string {
	return strings.Join([]string{
		deviceText(r.d), actionsText(r.acts), phasesText(r.phases), numsText(r.list), fittedText(r.f),
		boxesText(r.boxes), knownText(r.known), pairsText(r.mixed), r.more,
	}, "|")
}

func (r result) all() string { return r.values() + "|" + strconv.Itoa(int(r.e)) }

func ofNumber(q exact.Q, e api.Errno) result { return result{more: q.Text(), e: e} }

// calls returns all calls of the layer with these arguments.
func calls(a arguments) map[string]func() result {
	return map[string]func() result{
		"Check":   func() result { return result{e: wear.Check(a.d)} },
		"At":      func() result { return ofNumber(wear.At(a.c, a.angle)) },
		"Phases":  func() result { l, e := wear.Phases(a.d, a.walk); return result{phases: l, e: e} },
		"Act":     func() result { l, e := wear.Act(a.d, a.walk); return result{acts: l, e: e} },
		"Work":    func() result { l, e := wear.Work(a.d, a.walk); return result{list: l, e: e} },
		"Latency": func() result { n, e := wear.Latency(a.d, a.b, a.phase); return result{more: strconv.Itoa(n), e: e} },
		"Fit":     func() result { f, e := wear.Fit(a.knots, a.limit, a.wishes); return result{f: f, e: e} },
		"ProveFit": func() result {
			return result{more: strconv.FormatBool(wear.ProveFit(a.knots, a.limit, a.wishes, a.f))}
		},
		"OffOf": func() result { return ofNumber(wear.OffOf(a.c, a.wishes)) },
		"Boxes": func() result {
			boxes, known, mixed, e := wear.Boxes(a.records)
			return result{boxes: boxes, known: known, mixed: mixed, e: e}
		},
		"Mirror": func() result { d, e := wear.Mirror(a.d); return result{d: d, e: e} },
	}
}

// zeros returns what calls with an error give.
func zeros() map[string]string {
	none, number := result{}.values(), result{more: "0"}.values()
	return map[string]string{
		"Check": none, "At": number, "Phases": none, "Act": none, "Work": none, "Latency": number,
		"Fit": none, "OffOf": number, "Boxes": none, "Mirror": none,
	}
}

// ordinary returns arguments with which all calls succeed.
func ordinary(s *source) arguments {
	a := arguments{d: s.walker(), c: s.curve(), angle: s.number(), walk: s.samples(8), b: s.box(), limit: s.limit()}
	a.knots = s.rising(1 + s.below(4))
	a.wishes, a.records = s.wishes(s.below(6), a.knots), s.records(4, 5)
	a.f, _ = wear.Fit(a.knots, a.limit, a.wishes)
	a.phase = wear.Stop
	for phase := range uint8(4) {
		if _, e := wear.Latency(a.d, a.b, phase); e == api.OK {
			a.phase = phase
		}
	}
	return a
}

// marker gives numbers no two of which are the same.
type marker int64

func (m *marker) next() exact.Q { return exact.Int(m.int()) }

func (m *marker) int() int64 { *m++; return int64(*m) }

func (m *marker) sample() wear.Sample {
	return wear.Sample{Load: m.next(), Angle: m.next(), Speed: m.next()}
}

// scribble writes into all memory of a result, everywhere something else.
func (r result) scribble() {
	m := marker(5000)
	for _, l := range [][]exact.Q{r.list, r.f.Proof.Point, r.f.Proof.Ray, r.f.Proof.Weights} {
		for i := range l {
			l[i] = m.next()
		}
	}
	for _, c := range append(slices.Clone(r.d.Curves), r.f.Curve) {
		for i := range c {
			c[i] = exact.Point{X: m.next(), Z: m.next()}
		}
	}
	for i := range r.d.Guards {
		r.d.Guards[i] = wear.Guard{Box: wear.Box{Low: m.sample(), High: m.sample()}}
	}
	for i := range r.d.Limits {
		r.d.Limits[i] = wear.Limit{Moment: m.next(), Rate: m.next()}
	}
	for i := range r.acts {
		r.acts[i] = wear.Action{Phase: 99, Moment: m.next()}
	}
	for i := range r.phases {
		r.phases[i] = 99
	}
	for i := range r.boxes {
		r.boxes[i] = wear.Box{Low: m.sample(), High: m.sample()}
	}
	for i := range r.known {
		r.known[i] = !r.known[i]
	}
	for i := range r.mixed {
		r.mixed[i] = [2]int{int(m.int()), int(m.int())}
	}
}

// isDistinct reports whether no two curves of a device, and no two lists of a
// fit, are at one place of the memory: each has other numbers after scribble.
func (r result) isDistinct() bool {
	var words []string
	for _, c := range append(slices.Clone(r.d.Curves), r.f.Curve) {
		for _, p := range c {
			words = append(words, p.X.Text(), p.Z.Text())
		}
	}
	for _, l := range [][]exact.Q{r.f.Proof.Point, r.f.Proof.Ray, r.f.Proof.Weights} {
		for _, q := range l {
			words = append(words, q.Text())
		}
	}
	slices.Sort(words)
	return len(slices.Compact(slices.Clone(words))) == len(words)
}

// grow appends to all lists of a result, whose room may belong to others.
func (r result) grow() {
	for _, l := range [][]exact.Q{r.list, r.f.Proof.Point, r.f.Proof.Ray, r.f.Proof.Weights} {
		_ = append(l, nums("777 778 779")...)
	}
	for _, c := range append(slices.Clone(r.d.Curves), r.f.Curve) {
		_ = append(c, make(wear.Curve, 3)...)
	}
	_ = append(r.d.Guards, make([]wear.Guard, 3)...)
	_ = append(r.d.Curves, make([]wear.Curve, 3)...)
	_ = append(r.d.Limits, make([]wear.Limit, 3)...)
	_ = append(r.acts, make([]wear.Action, 3)...)
	_ = append(r.phases, 7, 8, 9)
	_ = append(r.boxes, make([]wear.Box, 3)...)
	_ = append(r.known, true, true, true)
	_ = append(r.mixed, make([][2]int, 3)...)
}

// R4 and P2: a result shares no memory with an argument, with another result,
// or with another part of its own; the same call gives the same.
func TestMemory(t *testing.T) {
	s := source(1190)
	for range 100 {
		a := ordinary(&s)
		before := a.all()
		for name, call := range calls(a) {
			first, second := call(), call()
			expectError(t, name, first.e, api.OK)
			want := second.all()
			expect(t, name+" again", first.all(), want)
			first.grow()
			expect(t, name+": the result after its lists have grown", first.all(), want)
			first.scribble()
			expect(t, name+": another result", second.all(), want)
			expect(t, name+": the arguments", a.all(), before)
			if !first.isDistinct() {
				t.Error(name, "gives the same memory twice in one result")
			}
		}
	}
}

// P11.6 and R4: curves that are at one place of the memory are not on the other
// side.
func TestSharedCurves(t *testing.T) {
	d := leg()
	d.Curves = times(5, d.Curves[0])
	before := deviceText(d)
	other, e := wear.Mirror(d)
	want, _ := wear.Mirror(leg())
	expectOK(t, "Mirror of a device with one curve", deviceText(other), e, deviceText(want))
	expect(t, "Mirror: the device", deviceText(d), before)
	other.Curves[0][0].Z = num("99")
	expect(t, "Mirror: another curve", curveText(other.Curves[1]), "([-10 -20][0 0])")
}

// roomy returns a list with room behind it, which holds other elements, and a
// function that reports whether they are still there.
func roomy[T any](l []T, isKept func(T) bool, other T) ([]T, func() bool) {
	long := append(append([]T{}, l...), other, other, other)
	return long[:len(l)], func() bool { return !slices.ContainsFunc(long[len(l):], func(x T) bool { return !isKept(x) }) }
}

// spacious gives the lists of arguments room, and returns what looks at it.
func spacious(a *arguments) []func() bool {
	var checks []func() bool
	number := num("888")
	isNumber := func(q exact.Q) bool { return q.Cmp(number) == 0 }
	add := func(check func() bool) { checks = append(checks, check) }
	numbers := func(l *[]exact.Q) {
		long, check := roomy(*l, isNumber, number)
		*l = long
		add(check)
	}
	curves := func(c *wear.Curve) {
		long, check := roomy(*c, func(p exact.Point) bool { return isNumber(p.X) }, exact.Point{X: number})
		*c = long
		add(check)
	}
	sample := wear.Sample{Load: number}
	isSample := func(x wear.Sample) bool { return isNumber(x.Load) }
	recordLists := func(l *[]wear.Record) {
		long, check := roomy(*l, func(r wear.Record) bool { return isSample(r.Sample) }, wear.Record{Sample: sample})
		*l = long
		add(check)
	}
	for _, l := range []*[]exact.Q{&a.knots, &a.f.Proof.Point, &a.f.Proof.Ray, &a.f.Proof.Weights} {
		numbers(l)
	}
	curves(&a.c)
	curves(&a.f.Curve)
	for i := range a.d.Curves {
		curves(&a.d.Curves[i])
	}
	recordLists(&a.wishes)
	recordLists(&a.records)
	var check func() bool
	a.walk, check = roomy(a.walk, isSample, sample)
	add(check)
	a.d.Guards, check = roomy(a.d.Guards, func(g wear.Guard) bool { return g.Hold == 888 }, wear.Guard{Hold: 888})
	add(check)
	a.d.Limits, check = roomy(a.d.Limits, func(l wear.Limit) bool { return isNumber(l.Rate) }, wear.Limit{Rate: number})
	add(check)
	a.d.Curves, check = roomy(a.d.Curves, func(c wear.Curve) bool { return len(c) == 9 }, make(wear.Curve, 9))
	add(check)
	return checks
}

// R4: what lies behind the lists of arguments belongs to others.
func TestRoomBehindArguments(t *testing.T) {
	s := source(1191)
	for range 50 {
		a := ordinary(&s)
		checks := spacious(&a)
		for name, call := range calls(a) {
			call().grow()
			for _, isKept := range checks {
				if !isKept() {
					t.Error(name, "writes behind its arguments")
				}
			}
		}
	}
}

// P2: calls that run at the same time do not disturb each other.
func TestAtTheSameTime(t *testing.T) {
	s := source(1192)
	a := ordinary(&s)
	all := calls(a)
	want := map[string]string{}
	for name, call := range all {
		want[name] = call().all()
	}
	names := slices.Sorted(maps.Keys(all))
	var wait sync.WaitGroup
	for i := range 8 {
		wait.Go(func() {
			for k := range 3 * len(names) {
				name := names[(k+3*i)%len(names)]
				if all[name]().all() != want[name] {
					t.Error(name, "gives something else at the same time as other calls")
				}
			}
		})
	}
	wait.Wait()
}

// R3: a nil list and an empty list are the same.
func TestNilAndEmpty(t *testing.T) {
	right := device()
	first := arguments{d: right, c: nil, phase: wear.Stop, b: box(wide)}
	second := first
	second.d.Guards, second.c, second.walk = []wear.Guard{}, wear.Curve{}, []wear.Sample{}
	second.knots, second.wishes, second.records = []exact.Q{}, []wear.Record{}, []wear.Record{}
	second.f = wear.Fitted{Curve: wear.Curve{}, Proof: hull.Answer{Point: []exact.Q{}, Ray: []exact.Q{}, Weights: []exact.Q{}}}
	others := calls(second)
	isArg := " At Fit OffOf "
	for name, call := range calls(first) {
		got := call()
		expect(t, name+" of empty lists", others[name]().all(), got.all())
		want := api.OK
		if strings.Contains(isArg, " "+name+" ") {
			want = api.ErrArg
		}
		expectError(t, name+" of nil lists", got.e, want)
	}
	bare := device()
	bare.Curves[3] = wear.Curve{}
	expectError(t, "Check of an empty curve", wear.Check(bare), api.ErrArg)
	bare.Curves, bare.Limits = []wear.Curve{}, []wear.Limit{}
	expectError(t, "Check of empty lists", wear.Check(bare), api.ErrArg)
	f, _ := wear.Fit(nums("1 2"), limit("3 4"), nil)
	f.Proof.Ray = []exact.Q{}
	if !wear.ProveFit(nums("1 2"), limit("3 4"), []wear.Record{}, f) {
		t.Error("ProveFit refuses empty lists")
	}
}

// oddCount returns an integer, often one that is no count.
func (s *source) oddCount() int {
	odd := []int{math.MinInt, -2, -1, 0, 1, 2, 3, 8, 9, 12, 64, 255, 256, 257, 1 << 32, 1<<32 + 1, math.MaxInt}
	return odd[s.below(len(odd))]
}

// oddNumber returns a number, now and then 0 or a great one.
func (s *source) oddNumber() exact.Q {
	odd := []int64{math.MinInt64, -1000, -2, -1, 1, 2, 1 << 32, math.MaxInt64}
	n := odd[s.below(len(odd))]
	switch s.below(5) {
	case 0:
		return exact.Q{}
	case 1:
		q := exact.Int(n)
		for range s.below(3) {
			q = q.Mul(q)
		}
		return q
	case 2:
		q, _ := exact.Of(1, n)
		return q
	}
	return s.number()
}

func (s *source) oddSample() wear.Sample {
	return wear.Sample{Load: s.oddNumber(), Angle: s.oddNumber(), Speed: s.oddNumber()}
}

// oddPhase returns a number, often that of a phase.
func (s *source) oddPhase() uint8 { return []uint8{0, 1, 2, 3, 4, 5, 128, 255}[s.below(8)] }

func (s *source) oddBox() wear.Box {
	if s.chance(2) {
		return s.box()
	}
	return wear.Box{Low: s.oddSample(), High: s.oddSample()}
}

func (s *source) oddCurve() wear.Curve {
	c := make(wear.Curve, s.below(11))
	for i := range c {
		c[i] = exact.Point{X: exact.Int(int64(i)), Z: s.oddNumber()}
		if s.chance(20) {
			c[i].X = s.oddNumber()
		}
	}
	return c
}

// oddDevice returns a device of which one part may be strange.
func (s *source) oddDevice() wear.Device {
	d := s.walker()
	i, k := s.below(len(d.Guards)), s.below(5)
	switch s.below(20) {
	case 0:
		d.Guards[i].From = s.oddPhase()
	case 1:
		d.Guards[i].To = s.oddPhase()
	case 2, 3:
		d.Guards[i].Hold = s.oddCount()
	case 4:
		d.Guards[i].Box = s.oddBox()
	case 5:
		d.Guards = times(16+s.below(2), d.Guards[i])
	case 6:
		d.Guards = nil
	case 7, 8:
		d.Curves[k] = s.oddCurve()
	case 9:
		d.Curves = times(4+s.below(3), d.Curves[k])
	case 10:
		d.Limits[k] = wear.Limit{Moment: s.oddNumber(), Rate: s.oddNumber()}
	case 11:
		d.Limits = times(4+s.below(3), d.Limits[k])
	case 12:
		d.Step = s.oddNumber()
	}
	return d
}

// oddRecords returns records with numbers and phases of any kind.
func (s *source) oddRecords(n int) []wear.Record {
	l := s.records(n, 5)
	for i := range l {
		if s.chance(5) {
			l[i] = wear.Record{Phase: s.oddPhase(), Sample: s.oddSample(), Moment: s.oddNumber()}
		}
	}
	return l
}

// strange returns any arguments.
func (s *source) strange() arguments {
	a := arguments{d: s.oddDevice(), c: s.oddCurve(), angle: s.oddNumber(), b: s.oddBox(), phase: s.oddPhase(), limit: s.limit()}
	for range s.below(20) {
		a.walk = append(a.walk, s.oddSample())
	}
	if s.chance(20) {
		a.walk = times(1024+s.below(2), s.sample())
	}
	a.knots = s.rising(s.below(10))
	if s.chance(3) {
		a.knots = s.numbers(1 + s.below(3))
	}
	if s.chance(4) {
		a.limit = wear.Limit{Moment: s.oddNumber(), Rate: s.oddNumber()}
	}
	if s.chance(4) {
		a.phase = wear.Stop
	}
	if s.chance(2) {
		a.b = s.box()
	}
	a.wishes, a.records = s.oddRecords(s.below(6)), s.oddRecords(s.below(6))
	if s.chance(10) {
		a.wishes, a.records = times(64+s.below(2), s.oddRecords(1)[0]), times(1024+s.below(2), s.oddRecords(1)[0])
	}
	a.f, _ = wear.Fit(a.knots, a.limit, a.wishes)
	switch s.below(6) {
	case 0:
		a.f.Curve = s.oddCurve()
	case 1:
		a.f.Off = s.oddNumber()
	case 2:
		a.f.Proof = hull.Answer{Kind: s.oddPhase(), Value: s.oddNumber(), Point: s.numbers(s.below(12)), Weights: s.numbers(s.below(40))}
	}
	return a
}

// P1 and R2: no call panics, and with an error every other result is zero.
func TestStrangeArguments(t *testing.T) {
	s := source(1193)
	failures, successes := map[string]int{}, map[string]int{}
	zero := zeros()
	for range 1500 {
		a := s.strange()
		before := a.all()
		for name, call := range calls(a) {
			r := call()
			expect(t, name+": the arguments", a.all(), before)
			if r.e == api.OK {
				successes[name]++
				continue
			}
			failures[name]++
			expect(t, name+" with an error", r.values(), zero[name])
		}
	}
	for name := range zero {
		if successes[name] < 90 || failures[name] < 90 {
			t.Error(name, "failed", failures[name], "times, and did not", successes[name], "times")
		}
	}
}

// P1: numbers of any size.
func TestGreatNumbers(t *testing.T) {
	great := num("1" + strings.Repeat("0", 300))
	small := over(num("1"), great)
	two := num("2")
	c := wear.Curve{{X: great.Neg(), Z: small.Neg()}, {X: great, Z: small}}
	moment, e := wear.At(c, num("1"))
	expectOK(t, "At of a flat curve", moment.Text(), e, small.Mul(small).Text())
	d := leg()
	d.Curves[wear.Rest] = wear.Curve{{X: num("5"), Z: great}}
	d.Limits[wear.Rest] = wear.Limit{Moment: great.Add(small), Rate: great.Sub(small)}
	acts, e := wear.Act(d, loads("0 0 0"))
	_, moments := actions(acts)
	expectOK(t, "Act with great moments", numsText(moments), e, numsText([]exact.Q{great.Sub(small), great, great}))
	edge := device()
	edge.Guards = []wear.Guard{{From: wear.Rest, To: wear.Stop, Box: line("0", "1"), Hold: 1}}
	edge.Guards[0].Box.High.Load = num("1").Sub(small)
	expectLatency(t, edge, line("0", "1"), wear.Rest, never)
	edge.Guards[0].Box.High.Load = num("1")
	expectLatency(t, edge, line("0", "1"), wear.Rest, "1")
	records := []wear.Record{{Sample: wear.Sample{Angle: great.Neg()}, Moment: great}, {Sample: wear.Sample{Angle: great}, Moment: small}}
	f, e := wear.Fit([]exact.Q{exact.Q{}}, wear.Limit{Moment: great}, records)
	off := over(great.Sub(small), two)
	expectOK(t, "Fit of great moments", curveText(f.Curve)+f.Off.Text(), e, curveText(wear.Curve{{Z: off.Add(small)}})+off.Text())
	boxes, _, mixed, e := wear.Boxes([]wear.Record{
		{Phase: 0, Sample: wear.Sample{Load: great.Neg()}}, {Phase: 0, Sample: wear.Sample{Load: great}},
		{Phase: 1, Sample: wear.Sample{Load: great.Add(small)}}, {Phase: 2, Sample: wear.Sample{Load: great.Sub(small)}},
	})
	expectOK(t, "Boxes of great loads", pairsText(mixed), e, "(3 0)")
	expect(t, "Boxes of great loads", boxText(boxes[0]), boxText(wear.Box{Low: wear.Sample{Load: great.Neg()}, High: wear.Sample{Load: great}}))
}

// The chapter's examples, and the document's.
func TestExamples(t *testing.T) {
	d := leg()
	acts, e := wear.Act(d, loads("0 500 500 500 500 0"))
	expectOK(t, "the first example", actionsText(acts), e, "Rest Stance Stance Stance Stop Rest[6 10 10 10 10 10]")
	acts, e = wear.Act(d, samples("500 5 2, 500 5 2, 500 5 2, 500 5 1, 500 5 1, 500 5 1"))
	phases, moments := actions(acts)
	expectOK(t, "the second example", phasesText(phases), e, "Stance Stance Stance Stance Stance Stop")
	expect(t, "the second example: the moments", numsText(moments), "[6 10 10 10 10 0]")
	expectLatency(t, d, box("500 600, 0 5, 0 1"), wear.Stance, "3")
	expectLatency(t, d, box("500 600, 0 5, 0 1"), wear.Rest, "4")
	expectLatency(t, d, box("500 600, 0 5, 0 2"), wear.Stance, never)
	expectFit(t, "0 10", "15 1", "0 0, 10 20", "5 15", "5")
	for angle, want := range map[string]string{"-5": "0", "5": "10", "20": "20"} {
		got, e := wear.At(d.Curves[0], num(angle))
		expectOK(t, "At of the example's curve", got.Text(), e, want)
	}
	work, e := wear.Work(d, samples("500 5 2, 500 5 1, 500 5 1, 500 5 1, 500 5 -2"))
	expectOK(t, "the work of the example", numsText(work), e, "[0 8/25 0 0 -3/25]")
}
