package team_test

import (
	"maps"
	"math"
	"slices"
	"strconv"
	"strings"
	"sync"
	"testing"

	"amble/api"
	"amble/exact"
	"amble/hull"
	"amble/team"
)

// P1, P2 and the rules of the document that concern all calls of the layer.

// arguments are those of all calls; each call takes some of them.
type arguments struct {
	l        []team.Carrier
	w        team.Load
	who      int
	shares   []exact.Q
	heavy    team.Load // beyond the carriers
	from, to []exact.Q
	rate     []exact.Q
	few      []team.Carrier // to be secured
	burden   team.Load
	net      team.Net
	x        []exact.Q
	lost     [][]int
	m        exact.Mat
	losses   int
	rounds   int
	ring     team.Ring
	act      team.Act
	n        int
	acts     []team.Act
}

// firstLost returns the links that are lost in the first round.
func (a arguments) firstLost() []int {
	if len(a.lost) == 0 {
		return nil
	}
	return a.lost[0]
}

func (a arguments) all() string {
	return strings.Join([]string{
		caseText(a.l, a.w), strconv.Itoa(a.who), loadText(a.heavy), listsText([][]exact.Q{a.shares, a.from, a.to, a.rate, a.x}),
		caseText(a.few, a.burden), netText(a.net), setsText(a.lost), listsText(a.m),
		ringText(a.ring), joined(append([]team.Act{a.act}, a.acts...), ", ", actText), intsText([]int{a.losses, a.rounds, a.n}),
	}, "|")
}

// result is what a call gave: its memory, other values, and its error.
type result struct {
	poly  hull.Poly
	list  []exact.Q
	lists [][]exact.Q
	ints  []int
	sets  [][]int
	ring  team.Ring
	codes []api.Errno
	more  string
	e     api.Errno
}

func (r result) values() string {
	return strings.Join([]string{
		polyText(r.poly), numsText(r.list), listsText(r.lists), intsText(r.ints), setsText(r.sets), ringText(r.ring), codesText(r.codes), r.more,
	}, "|")
}

func (r result) all() string { return r.values() + "|" + strconv.Itoa(int(r.e)) }

func ofShares(shares []exact.Q, cost exact.Q, e api.Errno) result {
	return result{list: shares, more: cost.Text(), e: e}
}

func ofNumbers(l []exact.Q, e api.Errno) result { return result{list: l, e: e} }

func ofLists(l [][]exact.Q, e api.Errno) result { return result{lists: l, e: e} }

func ofRing(r team.Ring, e api.Errno) result { return result{ring: r, e: e} }

// calls returns all calls of the layer with these arguments.
func calls(a arguments) map[string]func() result {
	return map[string]func() result{
		"Check":  func() result { return result{e: team.Check(a.l, a.w)} },
		"System": func() result { p, e := team.System(a.l, a.w); return result{poly: p, e: e} },
		"Holds":  func() result { return result{more: strconv.FormatBool(team.Holds(a.l, a.w, a.shares))} },
		"Share":  func() result { return ofShares(team.Share(a.l, a.w)) },
		"Fails":  func() result { return ofNumbers(team.Fails(a.l, a.heavy)) },
		"Where": func() result {
			low, high, e := team.Where(a.l, a.w.Weight)
			return result{more: numsText([]exact.Q{low, high}), e: e}
		},
		"Without":  func() result { return ofShares(team.Without(a.l, a.w, a.who)) },
		"Spare":    func() result { l, e := team.Spare(a.l, a.w); return result{ints: l, e: e} },
		"Secure":   func() result { return ofShares(team.Secure(a.few, a.burden)) },
		"Shift":    func() result { return ofLists(team.Shift(a.l, a.w, a.from, a.to, a.rate)) },
		"CheckNet": func() result { return result{e: team.CheckNet(a.net)} },
		"Matrix":   func() result { m, e := team.Matrix(a.net, a.firstLost()); return ofLists(m, e) },
		"Round":    func() result { return ofNumbers(team.Round(a.net, a.x, a.firstLost())) },
		"Rounds":   func() result { return ofNumbers(team.Rounds(a.net, a.x, a.lost)) },
		"Spread":   func() result { return result{more: team.Spread(a.x).Text()} },
		"Coefficient": func() result {
			c, e := team.Coefficient(a.m)
			return result{more: c.Text(), e: e}
		},
		"Worst": func() result {
			c, lost, e := team.Worst(a.net, a.losses, a.rounds)
			return result{sets: lost, more: c.Text(), e: e}
		},
		"NewRing": func() result { return ofRing(team.NewRing(a.n)) },
		"Do":      func() result { return ofRing(team.Do(a.ring, a.act)) },
		"Play": func() result {
			r, codes, e := team.Play(a.n, a.acts)
			return result{ring: r, codes: codes, e: e}
		},
		"Holders": func() result { return result{ints: team.Holders(a.ring)} },
	}
}

// zeros returns what calls with an error give.
func zeros() map[string]string {
	none, number := result{}.values(), result{more: "0"}.values()
	return map[string]string{
		"Check": none, "System": none, "Share": number, "Fails": none, "Where": result{more: "0 0"}.values(), "Without": number,
		"Spare": none, "Secure": number, "Shift": none, "CheckNet": none, "Matrix": none, "Round": none, "Rounds": none,
		"Coefficient": number, "Worst": number, "NewRing": none, "Do": none, "Play": none,
	}
}

// ordinary returns arguments with which all calls succeed.
func ordinary(s *source) arguments {
	a := arguments{few: carriers("0 0 10 1 9, 1 0 10 2 9, 2 0 10 1 9"), burden: team.Load{Weight: s.one("4 8 10"), At: num("1")}}
	for a.rate == nil {
		a.l = s.carriers(2 + s.below(5))
		w, from, to, ok := s.journey(a.l)
		spared, _ := team.Spare(a.l, w)
		if ok && len(spared) > 0 {
			a.w, a.shares, a.from, a.to, a.rate = w, from, from, to, times(len(a.l), s.one("1 1/2 1/3"))
			a.who = spared[s.below(len(spared))]
		}
	}
	a.heavy = team.Load{Weight: num("1000"), At: a.w.At}
	a.net = s.small(4)
	a.x, a.lost = s.numbers(a.net.Size), s.rounds(a.net, s.below(4))
	a.m, _ = team.Matrix(a.net, nil)
	a.losses, a.rounds = s.below(3), s.below(3)
	a.n = 2 + s.below(5)
	a.ring, _, _ = team.Play(a.n, s.acts(a.n, 20))
	a.acts = s.acts(a.n, 20)
	for {
		a.act = s.act(a.ring)
		if _, e := team.Do(a.ring, a.act); e == api.OK {
			return a
		}
	}
}

// numberLists returns all lists of numbers of a result.
func (r result) numberLists() [][]exact.Q {
	l := append([][]exact.Q{r.list}, r.lists...)
	for _, row := range r.poly.Rows {
		l = append(l, row.A)
	}
	return l
}

func (r result) intLists() [][]int { return append([][]int{r.ints}, r.sets...) }

// scribble writes into all memory of a result, everywhere something else.
func (r result) scribble() {
	mark := 5000
	next := func() int { mark++; return mark }
	for _, l := range r.numberLists() {
		for i := range l {
			l[i] = exact.Int(int64(next()))
		}
	}
	for _, l := range r.intLists() {
		for i := range l {
			l[i] = next()
		}
	}
	for i := range r.poly.Rows {
		r.poly.Rows[i].B = exact.Int(int64(next()))
	}
	for i := range r.ring.Members {
		r.ring.Members[i] = team.Member{Seen: next(), Given: next(), Has: true, Steps: next()}
	}
	for i := range r.ring.Flying {
		r.ring.Flying[i] = team.Message{To: next(), Number: next()}
	}
	for i := range r.codes {
		r.codes[i] = api.Errno(next())
	}
}

// isDistinct reports whether no two lists of a result are at one place of the
// memory: each has other numbers after scribble.
func (r result) isDistinct() bool {
	var words []string
	for _, l := range r.numberLists() {
		for _, q := range l {
			words = append(words, q.Text())
		}
	}
	for _, l := range r.intLists() {
		for _, n := range l {
			words = append(words, strconv.Itoa(n))
		}
	}
	slices.Sort(words)
	return len(slices.Compact(slices.Clone(words))) == len(words)
}

// grow appends to all lists of a result, whose room may belong to others.
func (r result) grow() {
	for _, l := range r.numberLists() {
		_ = append(l, nums("777 778 779")...)
	}
	for _, l := range r.intLists() {
		_ = append(l, 777, 778, 779)
	}
	_ = append(r.lists, nums("777"), nums("778"))
	_ = append(r.sets, []int{777}, []int{778})
	_ = append(r.poly.Rows, hull.Row{B: num("777")}, hull.Row{B: num("778")})
	_ = append(r.ring.Members, make([]team.Member, 3)...)
	_ = append(r.ring.Flying, make([]team.Message, 3)...)
	_ = append(r.codes, 77, 78, 79)
}

// R4 and P2: a result shares no memory with an argument, with another result,
// or with another part of its own; the same call gives the same.
func TestMemory(t *testing.T) {
	s := source(1290)
	for range 100 {
		a := ordinary(&s)
		before := a.all()
		for name, call := range calls(a) {
			first, second := call(), call()
			expectError(t, name, first.e, api.OK)
			want := second.all()
			if name != "Fails" { // whose weights are not specified
				expect(t, name+" again", first.all(), want)
			}
			kept := first.all()
			first.grow()
			expect(t, name+": the result after its lists have grown", first.all(), kept)
			first.scribble()
			expect(t, name+": another result", second.all(), want)
			expect(t, name+": the arguments", a.all(), before)
			if !first.isDistinct() {
				t.Error(name, "gives the same memory twice in one result")
			}
		}
	}
}

// R4: sets of a pattern that are the same are at different places of the memory.
func TestSharedSets(t *testing.T) {
	_, lost, e := team.Worst(net("2 1/3: 0 1, 1 0"), 1, 2)
	expectOK(t, "Worst", setsText(lost), e, "0, 0")
	lost[0][0] = 99
	expect(t, "another set", setText(lost[1]), "0")
}

// roomy returns a list with room behind it, which holds other elements, and a
// function that reports whether they are still there.
func roomy[T any](l *[]T, other T, text func(T) string) func() bool {
	long := append(append([]T{}, *l...), other, other, other)
	*l = long[:len(*l)]
	want := text(other)
	return func() bool {
		return !slices.ContainsFunc(long[len(long)-3:], func(x T) bool { return text(x) != want })
	}
}

// spacious gives the lists of arguments room, and returns what looks at it.
func spacious(a *arguments) []func() bool {
	var checks []func() bool
	add := func(check func() bool) { checks = append(checks, check) }
	number := num("888")
	carrier := team.Carrier{At: number}
	carrierText := func(c team.Carrier) string { return carriersText([]team.Carrier{c}) }
	for _, l := range []*[]team.Carrier{&a.l, &a.few} {
		add(roomy(l, carrier, carrierText))
	}
	for _, l := range []*[]exact.Q{&a.shares, &a.from, &a.to, &a.rate, &a.x} {
		add(roomy(l, number, exact.Q.Text))
	}
	for i := range a.m {
		add(roomy(&a.m[i], number, exact.Q.Text))
	}
	for i := range a.lost {
		add(roomy(&a.lost[i], 888, strconv.Itoa))
	}
	add(roomy(&a.lost, []int{888}, setText))
	add(roomy(&a.net.Links, [2]int{888, 889}, pairText))
	add(roomy(&a.ring.Members, team.Member{Seen: 888}, memberText))
	add(roomy(&a.ring.Flying, team.Message{To: 888}, func(m team.Message) string { return strconv.Itoa(m.To) }))
	add(roomy(&a.acts, team.Act{Who: 888}, actText))
	return checks
}

// R4: what lies behind the lists of arguments belongs to others.
func TestRoomBehindArguments(t *testing.T) {
	s := source(1291)
	for range 50 {
		a := ordinary(&s)
		checks := spacious(&a)
		for name, call := range calls(a) {
			call().grow()
			for _, isKept := range checks {
				if !isKept() {
					t.Error(name, "writes behind its arguments")
				}
			}
		}
	}
}

// P2: calls that run at the same time do not disturb each other.
func TestAtTheSameTime(t *testing.T) {
	s := source(1292)
	a := ordinary(&s)
	all := calls(a)
	want := map[string]string{}
	for name, call := range all {
		want[name] = call().all()
	}
	names := slices.Sorted(maps.Keys(all))
	var wait sync.WaitGroup
	for i := range 8 {
		wait.Go(func() {
			for k := range 3 * len(names) {
				name := names[(k+3*i)%len(names)]
				if name != "Fails" && all[name]().all() != want[name] {
					t.Error(name, "gives something else at the same time as other calls")
				}
			}
		})
	}
	wait.Wait()
}

// R3: a nil list and an empty list are the same.
func TestNilAndEmpty(t *testing.T) {
	first := arguments{w: load("1 0"), net: net("1 1:"), x: nums("5"), n: 2}
	second := first
	second.l, second.few, second.shares = []team.Carrier{}, []team.Carrier{}, []exact.Q{}
	second.from, second.to, second.rate = []exact.Q{}, []exact.Q{}, []exact.Q{}
	second.net.Links, second.lost, second.m = [][2]int{}, [][]int{}, exact.Mat{}
	second.ring, second.acts = team.Ring{Members: []team.Member{}, Flying: []team.Message{}}, []team.Act{}
	others := calls(second)
	isArg := " Check System Share Fails Where Without Spare Secure Shift Do "
	for name, call := range calls(first) {
		got := call()
		expect(t, name+" of empty lists", others[name]().all(), got.all())
		want := api.OK
		if strings.Contains(isArg, " "+name+" ") {
			want = api.ErrArg
		}
		expectError(t, name+" of nil lists", got.e, want)
	}
	r := ring("1 0 has 0, 0 0 - 0")
	r.Flying = []team.Message{}
	next, e := team.Do(r, acts("give 0")[0])
	expectOK(t, "Do without messages", ringText(next), e, "1 2 - 0, 0 0 - 0: 1 2")
	after, e := team.Rounds(pair(), nums("1 2"), [][]int{{}})
	expectOK(t, "Rounds with an empty set", numsText(after), e, "4/3 5/3")
	if team.Holds(trio(), load("12 1"), []exact.Q{}) {
		t.Error("Holds is true for an empty list")
	}
}

// oddInt returns an integer, often one that is no index and no count.
func (s *source) oddInt() int {
	odd := []int{math.MinInt, -2, -1, 0, 1, 2, 3, 5, 6, 7, 16, 17, 63, 64, 1 << 32, math.MaxInt}
	return odd[s.below(len(odd))]
}

// oddNumber returns a number, now and then 0 or a great one.
func (s *source) oddNumber() exact.Q {
	odd := []int64{math.MinInt64, -1000, -2, -1, 1, 2, 1 << 32, math.MaxInt64}
	n := odd[s.below(len(odd))]
	switch s.below(6) {
	case 0:
		return exact.Q{}
	case 1:
		q := exact.Int(n)
		for range s.below(3) {
			q = q.Mul(q)
		}
		return q
	case 2:
		q, _ := exact.Of(1, n)
		return q
	}
	return s.number()
}

// oddCarriers returns carriers of which one may be strange.
func (s *source) oddCarriers(most int) []team.Carrier {
	l := s.carriers(s.below(most + 1))
	if len(l) > 0 && s.chance(3) {
		c := &l[s.below(len(l))]
		*[]*exact.Q{&c.At, &c.Low, &c.High, &c.Cost, &c.Jump}[s.below(5)] = s.oddNumber()
	}
	return l
}

func (s *source) oddLoad() team.Load {
	if s.chance(8) {
		return team.Load{Weight: s.oddNumber(), At: s.oddNumber()}
	}
	return team.Load{Weight: s.one("1 2 3 5"), At: s.one("0 1 1/2")}
}

// oddNet returns a net of which one part may be strange.
func (s *source) oddNet() team.Net {
	n := s.small(s.below(8))
	switch s.below(12) {
	case 0:
		n.Size = s.oddInt()
	case 1:
		n.Weight = s.oddNumber()
	case 2:
		n.Links = append(n.Links, [2]int{s.oddInt(), s.oddInt()})
	case 3:
		n.Links = append(n.Links, n.Links...)
	case 4:
		n = complete(6, "1/5")
	case 5:
		n.Links = times(30+s.below(3), [2]int{0, 1})
	}
	return n
}

// oddLost returns links, of which one may be none of the net.
func (s *source) oddLost(n team.Net) []int {
	l := s.lost(n)
	if s.chance(8) {
		l = append(l, s.oddInt())
	}
	return l
}

// oddRing returns a ring with any numbers.
func (s *source) oddRing() team.Ring {
	n := 2 + s.below(5)
	r, _, _ := team.Play(n, s.acts(n, 30))
	if s.chance(10) {
		r.Members = r.Members[:s.below(3)]
	}
	if s.chance(3) && len(r.Members) > 0 {
		m := &r.Members[s.below(len(r.Members))]
		*[]*int{&m.Seen, &m.Given, &m.Steps}[s.below(3)] = s.oddInt()
		m.Has = s.chance(2)
	}
	if s.chance(5) {
		r.Flying = append(r.Flying, times(1+s.below(70), team.Message{To: s.oddInt(), Number: s.oddInt()})...)
	}
	return r
}

func (s *source) oddAct() team.Act {
	a := team.Act{Kind: uint8(s.below(7)), Who: s.below(4)}
	if s.chance(5) {
		a = team.Act{Kind: uint8(s.oddInt()), Who: s.oddInt()}
	}
	return a
}

// oddShares returns numbers for carriers, often as many, and some that hold the
// load.
func (s *source) oddShares(l []team.Carrier, w team.Load) []exact.Q {
	switch s.below(6) {
	case 0:
		return s.shares(l)
	case 1:
		return s.numbers(s.below(8))
	}
	shares, _, _ := team.Share(l, w)
	return shares
}

// strange returns any arguments.
func (s *source) strange() arguments {
	a := arguments{l: s.oddCarriers(7), w: s.oddLoad(), who: s.below(4), heavy: s.oddLoad(), few: s.oddCarriers(4), burden: s.oddLoad(),
		net: s.oddNet(), losses: s.below(3), rounds: s.below(3), ring: s.oddRing(), act: s.oddAct(), n: 2 + s.below(5)}
	if s.chance(2) {
		w, from, to, ok := s.journey(a.l)
		if ok {
			a.w, a.shares, a.from, a.to = w, from, from, to
		}
	} else {
		a.shares, a.from, a.to = s.oddShares(a.l, a.w), s.oddShares(a.l, a.w), s.oddShares(a.l, a.w)
	}
	a.rate = times(len(a.l), s.one("1 2 1/2 1/1000"))
	if s.chance(4) {
		a.few, a.burden = s.safe()
	}
	if s.chance(8) {
		a.who, a.losses, a.rounds, a.n = s.oddInt(), s.oddInt(), s.oddInt(), s.oddInt()
		a.rate = append(a.rate, s.oddNumber())
	}
	a.x = s.numbers(max(0, min(a.net.Size, 8)))
	if s.chance(8) {
		a.x = append(a.x, s.oddNumber())
	}
	for range s.below(4) {
		a.lost = append(a.lost, s.oddLost(a.net))
	}
	for range s.below(5) {
		a.m = append(a.m, s.numbers(3))
	}
	if s.chance(3) {
		a.m = append(a.m, s.numbers(s.below(4)))
	}
	for range s.below(100) {
		a.acts = append(a.acts, s.oddAct())
	}
	return a
}

// P1 and R2: no call panics, and with an error every other result is zero.
func TestStrangeArguments(t *testing.T) {
	s := source(1293)
	failures, successes := map[string]int{}, map[string]int{}
	zero := zeros()
	for range 1000 {
		a := s.strange()
		before := a.all()
		for name, call := range calls(a) {
			r := call()
			expect(t, name+": the arguments", a.all(), before)
			if r.e == api.OK {
				successes[name]++
				continue
			}
			failures[name]++
			expect(t, name+" with an error", r.values(), zero[name])
		}
	}
	for name := range zero {
		if successes[name] < 50 || failures[name] < 50 {
			t.Error(name, "failed", failures[name], "times, and did not", successes[name], "times")
		}
	}
}

// P1: numbers of any size.
func TestGreatNumbers(t *testing.T) {
	great := num("1" + strings.Repeat("0", 300))
	small := over(num("1"), great)
	half := num("1/2")
	l := []team.Carrier{{At: great.Neg(), High: great, Cost: small, Jump: small}, {At: great, High: great.Add(small), Cost: great}}
	w := team.Load{Weight: great, At: small}
	shares, cost, e := team.Share(l, w)
	lean := half.Mul(small)
	want := []exact.Q{great.Mul(half).Sub(lean), great.Mul(half).Add(lean)}
	expectOK(t, "Share of great numbers", numsText(shares), e, numsText(want))
	expect(t, "the cost of great numbers", cost.Text(), dot(costs(l), want).Text())
	if !team.Holds(l, w, want) || team.Holds(l, w, []exact.Q{want[0], want[1].Add(small)}) {
		t.Error("Holds of great numbers is wrong")
	}
	low, high, e := team.Where(l, great)
	expectOK(t, "Where of great numbers", numsText([]exact.Q{low, high}), e, numsText([]exact.Q{great.Neg(), great}))
	expectFails(t, l, team.Load{Weight: great.Add(great).Add(small).Add(small), At: small}, true)
	steps, e := team.Shift(l, w, want, want, []exact.Q{small, great})
	expectOK(t, "Shift of great numbers", listsText(steps), e, "")
	n := net("3 1: 0 1, 1 2, 2 0")
	n.Weight = small
	c, lost, e := team.Worst(n, 3, 2)
	expectOK(t, "Worst with a small weight", worstText(c, lost), e, "1: 0, 0 2")
	n.Weight = num("1").Add(small)
	expectError(t, "CheckNet with a little more than 1", team.CheckNet(n), api.ErrArg)
	n.Weight = num("1").Sub(small)
	after, e := team.Round(n, []exact.Q{great, {}, {}}, []int{2})
	expectOK(t, "Round of great numbers", numsText(after), e, numsText([]exact.Q{great, great.Sub(num("1")), {}}))
	expect(t, "Spread of great numbers", team.Spread([]exact.Q{great, great.Neg(), small}).Text(), great.Add(great).Text())
}

// The chapter's examples.
func TestExamples(t *testing.T) {
	shares, cost, e := team.Share(trio(), load("12 1"))
	expectOK(t, "the first example", priced(shares, cost), e, "6 0 6 for 12")
	spared, e := team.Spare(trio(), load("12 1"))
	expectOK(t, "the first example: Spare", intsText(spared), e, "1")
	spared, e = team.Spare(trio(), load("9 1"))
	expectOK(t, "the first example: Spare of 9", intsText(spared), e, "0 1 2")
	shares, cost, e = team.Without(trio(), load("9 1"), 0)
	expectOK(t, "the first example: Without", priced(shares, cost), e, "0 9 0 for 18")
	steps, e := team.Shift(trio(), load("12 1"), nums("6 0 6"), nums("0 12 0"), nums("1 1 1"))
	expectFailed(t, "the second example", listsText(steps), e, api.ErrArg)
	steps, e = team.Shift(trio(), load("12 1"), nums("6 0 6"), nums("2 8 2"), nums("1 3 2"))
	expectOK(t, "the second example", listsText(steps), e, "5 2 5, 4 4 4, 3 6 3, 2 8 2")
	m, e := team.Matrix(pair(), nil)
	expectOK(t, "the third example", listsText(m), e, "2/3 1/3, 1/3 2/3")
	c, e := team.Coefficient(m)
	expectOK(t, "the third example: Coefficient", c.Text(), e, "1/3")
	c, lost, e := team.Worst(pair(), 1, 1)
	expectOK(t, "the third example: Worst", worstText(c, lost), e, "2/3: 0")
	c, lost, e = team.Worst(pair(), 2, 1)
	expectOK(t, "the third example: Worst of all", worstText(c, lost), e, "1: 0 1")
	r, codes, e := team.Play(3, acts("give 0, double 0, bring 0, bring 0, step 1, step 0"))
	expectOK(t, "the fourth example", ringText(r), e, "1 2 - 0, 2 0 has 1, 0 0 - 0: ")
	expect(t, "the fourth example: the errors", codesText(codes), "0 0 0 0 0 13")
	expect(t, "the fourth example: Holders", intsText(team.Holders(r)), "1")
}

// The kinds of acts.
func TestKinds(t *testing.T) {
	kinds := []uint8{team.DoStep, team.DoGive, team.DoBring, team.DoLose, team.DoDouble}
	if !slices.Equal(kinds, []uint8{1, 2, 3, 4, 5}) {
		t.Error("the kinds of acts are", kinds)
	}
}
