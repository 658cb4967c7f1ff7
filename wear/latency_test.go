package wear_test

import (
	"slices"
	"strconv"
	"testing"

	"amble/api"
	"amble/exact"
	"amble/wear"
)

// P11.3: how soon a stop is recognised for certain.

// latencyText returns a latency, or the error.
func latencyText(n int, e api.Errno) string {
	if e != api.OK {
		return strconv.Itoa(n) + " " + e.Error()
	}
	return strconv.Itoa(n)
}

const never = "0 error 10"

func expectLatency(t *testing.T, d wear.Device, b wear.Box, phase uint8, want string) {
	t.Helper()
	n, e := wear.Latency(d, b, phase)
	expect(t, "Latency of "+phaseText(phase)+" for "+boxText(b)+" with "+deviceText(d), latencyText(n, e), want)
}

// P11.3: Latency, where the load of the box is from 0 to 100.
func TestLatency(t *testing.T) {
	always := func(from, to string, hold int) string {
		return from + " " + to + " " + strconv.Itoa(hold) + ": 0 100"
	}
	cases := []struct {
		name   string
		guards []string
		want   string
	}{
		{"no guards", nil, never},
		{"guards of other phases", []string{always("Stance", "Stop", 1), always("Stop", "Rest", 1)}, never},
		{"at once", []string{always("Rest", "Stop", 1)}, "1"},
		{"later", []string{always("Rest", "Stop", 8)}, "8"},
		{"two of them", []string{always("Rest", "Stop", 5), always("Rest", "Stop", 3)}, "3"},
		{"a guard that reaches further", []string{"Rest Stop 2: -7 100"}, "2"},
		{"a guard that does not reach all", []string{"Rest Stop 2: 0 99"}, never},
		{"a guard that begins above the end", []string{"Rest Stop 1: 1/1000 100"}, never},
		{"a guard elsewhere", []string{"Rest Stop 1: 101 200"}, never},
		{"a guard that touches", []string{"Rest Stop 1: 100 200"}, never},
		{"halves that meet", []string{"Rest Stop 1: 0 50", "Rest Stop 1: 50 100"}, "1"},
		{"halves that do not meet", []string{"Rest Stop 1: 0 50", "Rest Stop 1: 51 100"}, never},
		{"halves that nearly meet", []string{"Rest Stop 1: 0 50", "Rest Stop 1: 5000001/100000 100"}, never},
		{"halves in turn", []string{"Rest Stop 2: 0 50", "Rest Stop 2: 50 100"}, never},
		{"halves of which one fires at once", []string{"Rest Stop 1: 0 50", "Rest Stop 4: 50 100"}, "4"},
		{"a phase between", []string{always("Rest", "Stance", 2), always("Stance", "Stop", 3)}, "5"},
		{"all phases", []string{always("Rest", "Stance", 2), always("Stance", "Push", 3), always("Push", "Swing", 1), always("Swing", "Stop", 8)}, "14"},
		{"a phase without an end", []string{always("Rest", "Stance", 1), always("Stance", "Swing", 1)}, never},
		{"back to the phase", []string{always("Rest", "Stance", 8), always("Stance", "Rest", 8), always("Rest", "Stop", 8)}, never},
		{"no way back", []string{always("Rest", "Stop", 7), always("Rest", "Stance", 8), always("Stance", "Rest", 8)}, "7"},
		{"the first one of two", []string{always("Rest", "Stop", 3), always("Rest", "Stance", 3)}, "3"},
		{"the other one of two", []string{always("Rest", "Stance", 3), always("Rest", "Stop", 3), always("Stance", "Stop", 4)}, "7"},
		{"another phase at the last moment", []string{"Rest Stance 1: 0 10", always("Rest", "Stop", 8), always("Stance", "Stop", 8)}, "16"},
		{"a moment earlier", []string{always("Rest", "Stop", 8), "Rest Stance 1: 0 10", always("Stance", "Stop", 8)}, "15"},
		{"three cycles before", []string{always("Rest", "Stop", 8), "Rest Stance 3: 0 10", always("Stance", "Stop", 8)}, "15"},
		{"only from the first cycle on", []string{always("Rest", "Stop", 3), "Rest Stance 2: 0 10", always("Stance", "Stop", 8)}, "10"},
		{"too late for another phase", []string{always("Rest", "Stop", 3), "Rest Stance 3: 0 10", always("Stance", "Swing", 1)}, "3"},
		{"another phase where it does not help", []string{"Rest Stance 1: 0 10", always("Rest", "Stop", 8), always("Stance", "Stop", 1)}, "9"},
		{"another phase that cannot be avoided", []string{"Rest Stance 1: 0 60", "Rest Push 1: 50 100", always("Rest", "Stop", 1), always("Stance", "Stop", 2), always("Push", "Stop", 5)}, "6"},
		{"the longer one of two ways", []string{"Rest Stance 2: 0 50", "Rest Push 2: 50 100", always("Rest", "Stop", 6), always("Stance", "Stop", 2), always("Push", "Stop", 5)}, "11"},
		{"a guard that takes the place of another", []string{always("Rest", "Stance", 2), "Rest Push 1: 50 100", always("Stance", "Stop", 1), always("Push", "Stop", 8)}, "9"},
		{"the way back is in vain", []string{always("Rest", "Stance", 1), always("Stance", "Stop", 2), "Stance Rest 2: 0 10"}, "3"},
		{"the way back is open", []string{always("Rest", "Stance", 1), "Stance Rest 2: 0 10", always("Stance", "Stop", 2)}, never},
		{"Stop may be left", []string{always("Rest", "Stop", 2), always("Stop", "Rest", 1)}, "2"},
	}
	for _, c := range cases {
		n, e := wear.Latency(device(c.guards...), line("0", "100"), wear.Rest)
		expect(t, "Latency: "+c.name, latencyText(n, e), c.want)
		expectLatency(t, device(c.guards...), line("0", "100"), wear.Stop, "0")
	}
}

// P11.3: what a box has in common with those of guards, in all three numbers.
func TestLatencyOfBoxes(t *testing.T) {
	d := device("Rest Stop 2: 0 10, 0 10, 0 10")
	for _, b := range []string{"0 10, 0 10, 0 10", "10 10, 10 10, 10 10", "0 0, 3 4, 10 10", "1/2 19/2, 1 9, 5 5"} {
		expectLatency(t, d, box(b), wear.Rest, "2")
	}
	for _, b := range []string{"0 11, 0 10, 0 10", "0 10, -1 10, 0 10", "0 10, 0 10, 9 21/2", "10 20, 10 20, 10 20", "10 11, 5 5, 5 5", "11 11, 5 5, 5 5", "5 5, 5 5, 20 30"} {
		expectLatency(t, d, box(b), wear.Rest, never)
	}
	// Each of the numbers alone can keep the samples away from a guard.
	threes := device("Rest Stop 3: 0 9, 0 10, 0 10", "Rest Stop 3: 0 10, 0 9, 0 10", "Rest Stop 3: 0 10, 0 10, 1 10")
	expectLatency(t, threes, box("0 10, 0 10, 0 10"), wear.Rest, never)
	expectLatency(t, threes, box("0 10, 0 9, 0 10"), wear.Rest, "3")
	expectLatency(t, threes, box("0 9, 0 10, 0 10"), wear.Rest, "3")
	expectLatency(t, threes, box("0 10, 0 10, 1 10"), wear.Rest, "3")
	// A corner is left free by boxes that fire at once.
	corner := []string{"Rest Stop 1: 0 9, 0 10, 0 10", "Rest Stop 1: 0 10, 0 9, 0 10", "Rest Stop 1: 0 10, 0 10, 0 9"}
	expectLatency(t, device(corner...), box("0 10, 0 10, 0 10"), wear.Rest, never)
	expectLatency(t, device(append(corner, "Rest Stop 6: 9 10, 9 10, 9 10")...), box("0 10, 0 10, 0 10"), wear.Rest, "6")
	expectLatency(t, device(append(corner, "Rest Stop 6: 10 10, 9 10, 9 10")...), box("0 10, 0 10, 0 10"), wear.Rest, never)
}

// Three places of a box that must be visited in turn, as boxes that fire at once
// leave no others: one by each second sample, one by each third.
func turns(first, second, third int, more ...string) wear.Device {
	hold := strconv.Itoa
	return device(append(more,
		"Rest Stop 1: 0 10, 20 30, 0 40",
		"Rest Stop 1: 20 30, 20 30, 0 40",
		"Rest Stop "+hold(first)+": 10 30, 0 30, 0 40",
		"Rest Stop "+hold(second)+": 0 20, 0 30, 0 40",
		"Rest Stop "+hold(third)+": 0 30, 0 20, 0 40")...)
}

// Four places that must be visited in turn.
func fours(first, second, third, fourth int, more ...string) wear.Device {
	hold := strconv.Itoa
	return device(append(more,
		"Rest Stop 1: 0 40, 0 10, 0 10",
		"Rest Stop 1: 0 40, 0 10, 20 30",
		"Rest Stop 1: 0 40, 20 30, 0 10",
		"Rest Stop 1: 0 40, 20 30, 20 30",
		"Rest Stop "+hold(first)+": 0 40, 10 30, 0 30",
		"Rest Stop "+hold(second)+": 0 40, 0 20, 0 30",
		"Rest Stop "+hold(third)+": 0 40, 0 30, 10 30",
		"Rest Stop "+hold(fourth)+": 0 40, 0 30, 0 20")...)
}

// P11.3: a stop that can be put off for longer than any guard holds, but not for
// ever.
func TestLatencyInTurns(t *testing.T) {
	all := box("0 30, 0 30, 0 40")
	expectLatency(t, turns(3, 3, 3), all, wear.Rest, never)
	expectLatency(t, turns(2, 4, 4), all, wear.Rest, never)
	expectLatency(t, turns(2, 3, 8), all, wear.Rest, "10")
	expectLatency(t, turns(3, 2, 8), all, wear.Rest, "10")
	expectLatency(t, turns(2, 2, 8), all, wear.Rest, "8")
	// Guards that do not hinder much more.
	var more []string
	for i := range 11 {
		ends := strconv.Itoa(2*i+1) + " 40"
		if i%2 == 0 {
			ends = "0 " + strconv.Itoa(2*i+1)
		}
		more = append(more, "Rest Stop 8: 0 30, 0 30, "+ends)
	}
	expectLatency(t, turns(2, 3, 8, more...), all, wear.Rest, "10")
	expectLatency(t, turns(2, 4, 4, more...), all, wear.Rest, never)
	// Four places.
	expectLatency(t, fours(3, 4, 5, 8), box("0 40, 0 30, 0 30"), wear.Rest, never)
	expectLatency(t, fours(3, 4, 5, 7), box("0 40, 0 30, 0 30"), wear.Rest, "20")
	more = nil
	for i := range 8 {
		ends := strconv.Itoa(2*i+1) + " 40"
		if i%2 == 0 {
			ends = "0 " + strconv.Itoa(2*i+1)
		}
		more = append(more, "Rest Stop 8: "+ends+", 0 30, 0 30")
	}
	expectLatency(t, fours(3, 4, 5, 7, more...), box("0 40, 0 30, 0 30"), wear.Rest, "20")
	// Another phase may come as late as the stop, before the others.
	away := "Rest Push 4: 0 30, 0 5, 0 40"
	expectLatency(t, turns(2, 3, 8, away, "Push Stop 1: "+wide), all, wear.Rest, latencyText(tried(turns(2, 3, 8, away, "Push Stop 1: "+wide), all, wear.Rest)))
}

// P11.3: many guards, which hold as long as they may.
func TestLatencyOfManyGuards(t *testing.T) {
	d := device()
	s := source(1103)
	for range api.MaxGuards {
		g := s.guard()
		g.From, g.To, g.Hold = wear.Rest, wear.Stop, api.MaxHold
		d.Guards = append(d.Guards, g)
	}
	all := box("-1 5, -1 5, -1 5")
	expectLatency(t, d, all, wear.Rest, never)
	d.Guards[15].Box = all
	expectLatency(t, d, all, wear.Rest, "8")
	d.Guards[14].Hold, d.Guards[13].Hold = 1, 1
	expectLatency(t, d, all, wear.Rest, "8")
	d.Guards[3].Box, d.Guards[3].Hold = all, 7
	expectLatency(t, d, all, wear.Rest, "7")
}

func TestLatencyErrors(t *testing.T) {
	right, wrong := box(wide), box("1 0, 0 0, 0 0")
	cases := []struct {
		d     wear.Device
		b     wear.Box
		phase uint8
		want  api.Errno
	}{
		{leg(), right, 5, api.ErrRange},
		{leg(), right, 6, api.ErrRange},
		{leg(), right, 255, api.ErrRange},
		{leg(), wrong, 5, api.ErrRange},
		{leg(), wrong, wear.Rest, api.ErrArg},
		{leg(), wrong, wear.Stop, api.ErrArg},
		{leg(), box("0 0, 1 0, 0 0"), wear.Stance, api.ErrArg},
		{leg(), box("0 0, 0 0, 1 0"), wear.Stance, api.ErrArg},
		{leg(), right, wear.Rest, api.ErrMany},
		{leg(), right, wear.Swing, api.ErrMany},
		{leg(), right, wear.Stop, api.OK},
	}
	for _, c := range cases {
		n, e := wear.Latency(c.d, c.b, c.phase)
		expect(t, "Latency with an error", strconv.Itoa(n), "0")
		expectError(t, "Latency of "+phaseText(c.phase), e, c.want)
	}
}

// places returns numbers from low to high such that each way to lie to the ends
// of guards is that of one of them.
func places(low, high exact.Q, ends []exact.Q) []exact.Q {
	l := []exact.Q{low, high}
	for _, q := range ends {
		l = append(l, clamped(low, q, high))
	}
	slices.SortFunc(l, exact.Q.Cmp)
	for i := range len(l) - 1 {
		l = append(l, over(l[i].Add(l[i+1]), num("2")))
	}
	slices.SortFunc(l, exact.Q.Cmp)
	return slices.CompactFunc(l, func(a, b exact.Q) bool { return a.Cmp(b) == 0 })
}

// grid returns samples of a box: one for each set of guards that may see one.
func grid(d wear.Device, b wear.Box) []wear.Sample {
	var lists [3][]exact.Q
	for k := range lists {
		var ends []exact.Q
		for _, g := range d.Guards {
			ends = append(ends, sides(g.Box.Low)[k], sides(g.Box.High)[k])
		}
		lists[k] = places(sides(b.Low)[k], sides(b.High)[k], ends)
	}
	var l []wear.Sample
	seen := map[string]bool{}
	for _, load := range lists[0] {
		for _, angle := range lists[1] {
			for _, speed := range lists[2] {
				x := wear.Sample{Load: load, Angle: angle, Speed: speed}
				who := ""
				for _, g := range d.Guards {
					who += strconv.FormatBool(lies(x, g.Box))
				}
				if !seen[who] {
					seen[who] = true
					l = append(l, x)
				}
			}
		}
	}
	return l
}

// moment is what a trial has come to: a phase, and how many of the last samples
// each guard has held.
type moment struct {
	phase uint8
	held  [api.MaxGuards]int
}

// trial tries all samples of a grid.
type trial struct {
	d     wear.Device
	l     []wear.Sample
	known map[moment]int
	many  bool
}

// next returns the moment after a sample.
func (r *trial) next(m moment, x wear.Sample) moment {
	for i, g := range r.d.Guards {
		m.held[i]++
		if !lies(x, g.Box) || g.From != m.phase {
			m.held[i] = 0
		}
	}
	for i, g := range r.d.Guards {
		if g.From == m.phase && m.held[i] >= g.Hold {
			return moment{phase: g.To}
		}
	}
	return m
}

// longest returns how many samples may follow without Stop.
func (r *trial) longest(m moment) int {
	if n, ok := r.known[m]; ok {
		r.many = r.many || n < 0
		return n
	}
	r.known[m] = -1
	most := 0
	for _, x := range r.l {
		if after := r.next(m, x); after.phase != wear.Stop && !r.many {
			most = max(most, 1+r.longest(after))
		}
	}
	r.known[m] = most
	return most
}

// tried returns the latency that is found by trying.
func tried(d wear.Device, b wear.Box, phase uint8) (int, api.Errno) {
	if phase == wear.Stop {
		return 0, api.OK
	}
	r := trial{d: d, l: grid(d, b), known: map[moment]int{}}
	n := r.longest(moment{phase: phase})
	if r.many {
		return 0, api.ErrMany
	}
	return n + 1, api.OK
}

// retarding returns a device in which Stop can often be put off for a while, but
// not for ever: some guards hold all samples of the box, some fire at once.
func (s *source) retarding(all wear.Box) wear.Device {
	d := device()
	for range 2 + s.below(7) {
		g := s.guard()
		g.From = uint8(s.below(1 + s.below(4)))
		g.To = g.From + 1 + uint8(s.below(int(wear.Stop-g.From)))
		if s.chance(12) {
			g.To = uint8(s.below(int(g.From + 1)))
		}
		if g.To == g.From || s.chance(3) {
			g.To = wear.Stop
		}
		switch s.below(4) {
		case 0:
			g.Hold = 1
		case 1, 2:
			g.Box, g.Hold = all, 2+s.below(5)
		}
		d.Guards = append(d.Guards, g)
	}
	return d
}

// P11.3: Latency, compared with what is found by trying.
func TestLatencyByTrying(t *testing.T) {
	s := source(1104)
	finite, long, many := 0, 0, 0
	for range 4000 {
		all := s.box()
		d := s.retarding(all)
		phase := uint8(s.below(5) * s.below(2))
		want, e := tried(d, all, phase)
		expectLatency(t, d, all, phase, latencyText(want, e))
		switch {
		case e != api.OK:
			many++
		case want > 1:
			finite++
		}
		if want > 6 {
			long++
		}
	}
	if finite < 800 || long < 60 || many < 800 {
		t.Error("only", finite, "latencies above 1,", long, "long ones,", many, "times none")
	}
}

// P11.10: from when the device has come to a phase, and all samples are in a box,
// it is in Stop after at most as many cycles as the latency; and not always
// before.
func TestSoon(t *testing.T) {
	s := source(1110)
	checked, last := 0, 0
	for range 3000 {
		all := s.box()
		d := s.retarding(all)
		phase := uint8(s.below(4))
		n, e := wear.Latency(d, all, phase)
		if e != api.OK {
			continue
		}
		d.Guards = append(d.Guards, guard("Stop Rest 1: -77 -77"))
		if phase != wear.Rest {
			d.Guards = append([]wear.Guard{guard("Rest Stance 1: -99 -99")}, d.Guards...)
			d.Guards[0].To = phase
		}
		walk := times(min(int(phase), 1), wear.Sample{Load: num("-99")})
		begin := len(walk)
		inside := grid(d, all)
		for range n {
			walk = append(walk, inside[s.below(len(inside))])
		}
		phases, e := wear.Phases(d, walk)
		expectError(t, "Phases", e, api.OK)
		checked++
		if !slices.Contains(phases[begin:], wear.Stop) {
			t.Error("no stop within", n, "cycles from", phaseText(phase), "on:", phasesText(phases), deviceText(d))
		}
		if !slices.Contains(phases[begin:len(phases)-1], wear.Stop) {
			last++
		}
	}
	if checked < 400 || last < 100 {
		t.Error("only", checked, "latencies,", last, "of them needed")
	}
}
