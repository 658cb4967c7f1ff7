package machine_test

import (
	"math"
	"strconv"
	"testing"

	"amble/api"
	"amble/exact"
	"amble/machine"
)

// expectRange compares two bounds.
func expectRange(t *testing.T, call string, low, high exact.Q, e api.Errno, wantLow, wantHigh string) {
	t.Helper()
	if e != api.OK || low.Cmp(num(wantLow)) != 0 || high.Cmp(num(wantHigh)) != 0 {
		t.Errorf("%s: got %s to %s, the error %d, want %s to %s", call, low.Text(), high.Text(), e, wantLow, wantHigh)
	}
}

func expectNoRange(t *testing.T, call string, low, high exact.Q, e, want api.Errno) {
	t.Helper()
	if e != want || low.Sign() != 0 || high.Sign() != 0 {
		t.Errorf("%s: got %s to %s, the error %d, want the error %d", call, low.Text(), high.Text(), e, want)
	}
}

// wrongDesigns returns designs with errors, by the names of these.
func wrongDesigns() map[api.Errno]machine.Design {
	twice := rich()
	twice.Bodies[3].Name = "trunk"
	return map[api.Errno]machine.Design{
		api.ErrName:  {},
		api.ErrLimit: {Machine: withBodies(13)},
		api.ErrTwice: {Machine: twice},
		api.ErrArg:   {Machine: rich(), Tolerances: []machine.Tolerance{tolerance(1, 1, 2, 0, "2")}},
	}
}

// P3.7: the sum of masses, and of their tolerances.
func TestMasses(t *testing.T) {
	check := func(name, low, high string, tolerances ...machine.Tolerance) {
		t.Helper()
		l, h, e := machine.Masses(machine.Design{Machine: rich(), Tolerances: tolerances})
		expectRange(t, "Masses, "+name, l, h, e, low, high)
	}
	check("no tolerances", "14", "14")
	check("of the trunk", "13", "15", tolerance(1, 0, 2, 0, "1"))
	check("of two bodies", "55/4", "57/4", tolerance(1, 1, 2, 0, "1/8"), tolerance(1, 3, 2, 0, "1/8"))
	check("of other numbers", "14", "14", tolerance(1, 1, 0, 0, "1"), tolerance(1, 1, 3, 0, "1/12"), tolerance(2, 0, 2, 0, "1"),
		tolerance(3, 1, 2, 0, "1"), tolerance(4, 0, 2, 0, "1/10"), tolerance(5, 0, 2, 0, "1/10"))
	var amount exact.Q
	for _, tolerance := range loose().Tolerances {
		if tolerance.Place.Kind == 1 && tolerance.Place.Field == 2 {
			amount = amount.Add(tolerance.Amount)
		}
	}
	low, high, e := machine.Masses(loose())
	expectRange(t, "Masses, all numbers", low, high, e, num("14").Sub(amount).Text(), num("14").Add(amount).Text())
	for want, d := range wrongDesigns() {
		low, high, e := machine.Masses(d)
		expectNoRange(t, "Masses", low, high, e, want)
	}
}

// link is a hinge: the coordinates of At, and their amounts ("": none).
type link struct{ x, amountX, z, amountZ string }

// chained returns a design whose bodies hang at each other.
func chained(links ...link) machine.Design {
	d := machine.Design{Machine: machine.Machine{Name: "chain", Bodies: rich().Bodies[:1]}}
	for i, l := range links {
		b := machine.Body{Name: "link" + strconv.Itoa(i), Parent: i, At: at(l.x, l.z), Mass: num("1"), Inertia: num("1"), Low: num("-1"), High: num("1")}
		d.Machine.Bodies = append(d.Machine.Bodies, b)
		for field, amount := range []string{l.amountX, l.amountZ} {
			if amount != "" {
				d.Tolerances = append(d.Tolerances, tolerance(1, i+1, field, 0, amount))
			}
		}
	}
	return d
}

// P3.7: the squares of distances between hinges.
func TestSpans(t *testing.T) {
	check := func(l link, low, high string) {
		t.Helper()
		first, second, e := machine.Spans(chained(l), 1)
		expectRange(t, "Spans of "+l.x+" "+l.z, first, second, e, low, high)
		first, second, e = machine.Spans(chained(link{"7", "1", "8", "2"}, l), 2)
		expectRange(t, "Spans of the second body, "+l.x+" "+l.z, first, second, e, low, high)
	}
	check(link{"0", "", "0", ""}, "0", "0")
	check(link{"3", "", "-4", ""}, "25", "25")
	check(link{"3", "1", "-4", ""}, "20", "32")
	check(link{"3", "", "-4", "1"}, "18", "34")
	check(link{"3", "1", "-4", "2"}, "8", "52")
	check(link{"-3", "1", "4", "2"}, "8", "52")
	check(link{"3", "3", "4", "4"}, "0", "100")
	check(link{"3", "4", "-4", "1/2"}, "49/4", "277/4") // X may be 0 in between
	check(link{"-1/2", "2", "1/3", "3"}, "0", "625/36") // both may be 0
	check(link{"0", "1/10", "0", "1/5"}, "0", "1/20")
	check(link{"0", "1/10", "2", ""}, "4", "401/100")
	check(link{"0", "", "-0.4", "0.001"}, "159201/1000000", "160801/1000000")
}

// P3.7: only the tolerances of this body's hinge count.
func TestSpansOfOthers(t *testing.T) {
	d := loose()
	for i := 1; i < 4; i++ {
		alone := machine.Design{Machine: d.Machine}
		for _, tolerance := range d.Tolerances {
			if tolerance.Place.Kind == 1 && tolerance.Place.Index == i && tolerance.Place.Field < 2 {
				alone.Tolerances = append(alone.Tolerances, tolerance)
			}
		}
		low, high, e := machine.Spans(alone, i)
		expectError(t, "Spans", e, api.OK)
		otherLow, otherHigh, e := machine.Spans(d, i)
		expectRange(t, "Spans of body "+strconv.Itoa(i), otherLow, otherHigh, e, low.Text(), high.Text())
	}
	for _, body := range []int{0, -1, 4, math.MaxInt, math.MinInt} {
		low, high, e := machine.Spans(d, body)
		expectNoRange(t, "Spans of body "+strconv.Itoa(body), low, high, e, api.ErrRange)
		for want, wrong := range wrongDesigns() {
			low, high, e := machine.Spans(wrong, body)
			expectNoRange(t, "Spans of a wrong design", low, high, e, want)
		}
	}
}

// P3.7: bounds of distances along hinges.
func TestReach(t *testing.T) {
	check := func(name, low, high string, links ...link) {
		t.Helper()
		first, second, e := machine.Reach(chained(links...), 0, len(links))
		expectRange(t, "Reach, "+name, first, second, e, low, high)
	}
	five, one, two := link{"3", "", "-4", ""}, link{"0", "", "1", ""}, link{"-2", "", "0", ""}
	root := link{"1", "", "1", ""} // √2 is between 1482910 and 1482911 steps
	third := link{"1/3", "", "0", ""}
	check("no hinge", "0", "0")
	check("one", "5", "5", five)
	check("the long one first", "2", "8", five, one, two)
	check("the long one last", "2", "8", one, two, five)
	check("the long one between others", "2", "8", two, five, one)
	check("equal ones", "0", "10", five, five)
	check("equal ones, three", "0", "15", five, five, five)
	check("none is long", "0", "5", two, one, two)
	check("just as long as the others", "0", "10", five, two, two, one)
	check("hinges at one point", "5", "5", link{"0", "", "0", ""}, five, link{"0", "", "0", ""})
	check("a root", "1482910/1048576", "1482911/1048576", root)
	check("a root less a root", "0", "2965822/1048576", root, root)
	check("a root and a number", "3759969/1048576", "6725791/1048576", five, root)
	check("a number that is no step", "349525/1048576", "349526/1048576", third)
	check("a square that is tiny", "0", "1/1048576", link{"1/10000000", "", "0", ""})
	check("a step", "1/1048576", "1/1048576", link{"0", "", "-1/1048576", ""})
	check("a great number", "999999999999999999999", "999999999999999999999", link{"999999999999999999999", "", "0", ""})
	check("a tolerance", "4", "6", link{"5", "1", "0", ""})
	check("tolerances", "3/2", "21/2", link{"6", "1/2", "0", ""}, link{"0", "", "3", "1"})
	check("a tolerance beyond 0", "0", "4", link{"1", "3", "0", ""})
	check("a long one with a tolerance beyond 0", "5", "15", link{"0", "", "-10", ""}, link{"1", "4", "0", ""})
	check("the greatest l is not that of the greatest h", "1", "27", link{"1", "12", "0", ""}, link{"14", "", "0", ""})
}

// P3.7: the bodies that count are those after from in the chain of to.
func TestReachInTree(t *testing.T) {
	d := chained(link{"1", "", "0", ""}, link{"10", "", "0", ""}, link{"100", "", "0", ""}, link{"1000", "", "0", ""})
	d.Machine.Bodies[3].Parent = 1 // 2 is a leaf now
	want := map[[2]int]string{
		{0, 0}: "0 0", {1, 1}: "0 0", {2, 2}: "0 0", {3, 3}: "0 0", {4, 4}: "0 0",
		{0, 1}: "1 1", {0, 2}: "9 11", {0, 3}: "99 101", {0, 4}: "899 1101",
		{1, 2}: "10 10", {1, 3}: "100 100", {1, 4}: "900 1100", {3, 4}: "1000 1000",
	}
	for from := range 5 {
		for to := range 5 {
			low, high, e := machine.Reach(d, from, to)
			name := "Reach " + intsText([]int{from, to})
			if text, ok := want[[2]int{from, to}]; ok {
				expectError(t, name, e, api.OK)
				expect(t, name, low.Text()+" "+high.Text(), text)
			} else {
				expectNoRange(t, name, low, high, e, api.ErrArg)
			}
		}
	}
	odd := []int{math.MinInt, -1, 5, math.MaxInt}
	for _, from := range append(odd, 0, 2, 4) {
		for _, to := range append(odd, 0, 3, 4) {
			if from >= 0 && from < 5 && to >= 0 && to < 5 {
				continue
			}
			low, high, e := machine.Reach(d, from, to)
			expectNoRange(t, "Reach "+intsText([]int{from, to}), low, high, e, api.ErrRange)
			for want, wrong := range wrongDesigns() {
				low, high, e := machine.Reach(wrong, from, to)
				expectNoRange(t, "Reach in a wrong design", low, high, e, want)
			}
		}
	}
}

// originIn returns the origin of a body in the frame of another one in its
// chain, with these half tangents of the hinges.
func originIn(m machine.Machine, from, to int, tangents []exact.Q) exact.Point {
	var p exact.Point
	for i := to; i != from; i = m.Bodies[i].Parent {
		p = p.Turn(exact.Turn(tangents[i])).Add(m.Bodies[i].At)
	}
	return p
}

// P3.7: whatever the angles and the numbers within the tolerances are, the
// distance lies between the bounds.
func TestReachBounds(t *testing.T) {
	s := source(37)
	for range 80 {
		d := s.design(t)
		by := make([]int, len(d.Tolerances))
		for i := range by {
			by[i] = s.below(3)*100 - 100
		}
		m, e := machine.Vary(d, by)
		if e != api.OK {
			continue
		}
		tangents := make([]exact.Q, len(m.Bodies))
		for i := range tangents {
			tangents[i] = s.number()
		}
		to := s.below(len(m.Bodies))
		chain, _ := machine.Chain(m, to)
		from := chain[s.below(len(chain))]
		low, high, e := machine.Reach(d, from, to)
		expectError(t, "Reach", e, api.OK)
		p := originIn(m, from, to, tangents)
		square := p.Dot(p)
		if square.Cmp(low.Mul(low)) < 0 || square.Cmp(high.Mul(high)) > 0 {
			t.Errorf("Reach %d to %d: %s to %s, the square of the distance %s\n%s", from, to, low.Text(), high.Text(), square.Text(), designText(d))
		}
	}
}
