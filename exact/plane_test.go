package exact_test

import (
	"testing"

	"amble/exact"
)

// P1.7: Point, Rot.

func TestPoint(t *testing.T) {
	for _, c := range []struct{ p, q, k, sum, difference, multiple, dot, cross string }{
		{"0 0", "0 0", "0", "0 0", "0 0", "0 0", "0", "0"},
		{"1 2", "3 5", "2", "4 7", "-2 -3", "2 4", "13", "-1"},
		{"3 5", "1 2", "-1/2", "4 7", "2 3", "-3/2 -5/2", "13", "1"},
		{"1/2 -1/3", "-2 3/4", "6", "-3/2 5/12", "5/2 -13/12", "3 -2", "-5/4", "-7/24"},
		{"1 0", "0 1", "0", "1 1", "1 -1", "0 0", "0", "1"},
		{"18446744073709551616 1", "1 18446744073709551616", "18446744073709551616", "18446744073709551617 18446744073709551617",
			"18446744073709551615 -18446744073709551615", "340282366920938463463374607431768211456 18446744073709551616",
			"36893488147419103232", "340282366920938463463374607431768211455"},
	} {
		p, q := point(c.p), point(c.q)
		expect(t, "Add", pointText(p.Add(q)), c.sum)
		expect(t, "Sub", pointText(p.Sub(q)), c.difference)
		expect(t, "Scale", pointText(p.Scale(num(c.k))), c.multiple)
		expect(t, "Dot", p.Dot(q).Text(), c.dot)
		expect(t, "Cross", p.Cross(q).Text(), c.cross)
	}
}

func TestPointTurn(t *testing.T) {
	for _, c := range []struct{ p, r, want string }{
		{"5 10", "3/5 4/5", "-5 10"}, {"1 0", "3/5 4/5", "3/5 4/5"}, {"0 1", "3/5 4/5", "-4/5 3/5"}, {"7 -3", "1 0", "7 -3"},
		{"7 -3", "-1 0", "-7 3"}, {"7 -3", "0 1", "3 7"}, {"7 -3", "0 -1", "-3 -7"}, {"0 0", "5 7", "0 0"},
		{"1 2", "2 3", "-4 7"}, {"1 2", "0 0", "0 0"}, // no valid rotations
	} {
		expect(t, "Turn of "+c.p+" by "+c.r, pointText(point(c.p).Turn(rot(c.r))), c.want)
	}
}

func TestTurn(t *testing.T) {
	for text, want := range map[string]string{
		"1/2": "3/5 4/5", "0": "1 0", "1": "0 1", "-1": "0 -1", "-1/2": "3/5 -4/5", "2": "-3/5 4/5", "1/3": "4/5 3/5", "-3": "-4/5 -3/5",
		"2/3": "5/13 12/13", "4294967296": "-18446744073709551615/18446744073709551617 8589934592/18446744073709551617",
	} {
		expect(t, "Turn("+text+")", rotText(exact.Turn(num(text))), want)
	}
}

func TestRot(t *testing.T) {
	for _, c := range []struct{ a, b, then, back string }{
		{"3/5 4/5", "3/5 4/5", "-7/25 24/25", "3/5 -4/5"}, {"1 0", "3/5 -4/5", "3/5 -4/5", "1 0"}, {"0 1", "0 1", "-1 0", "0 -1"},
		{"3/5 4/5", "5/13 12/13", "-33/65 56/65", "3/5 -4/5"}, {"2 3", "5 7", "-11 29", "2 -3"}, {"0 0", "1 0", "0 0", "0 0"},
	} {
		expect(t, "Then", rotText(rot(c.a).Then(rot(c.b))), c.then)
		expect(t, "Back", rotText(rot(c.a).Back()), c.back)
	}
}

func TestHalf(t *testing.T) {
	for text, want := range map[string]string{
		"3/5 4/5": "1/2", "1 0": "0", "0 1": "1", "0 -1": "-1", "-7/25 24/25": "4/3", "-3/5 -4/5": "-2", "0 0": "0", "2 3": "1", "-2 3": "-3",
	} {
		got, ok := rot(text).Half()
		expect(t, "Half of "+text, got.Text(), want)
		if !ok {
			t.Error("Half of", text, "is false")
		}
	}
	for _, text := range []string{"-1 0", "-1 5", "-1 -1/2"} {
		got, ok := rot(text).Half()
		expect(t, "Half of "+text, got.Text(), "0")
		if ok {
			t.Error("Half of", text, "is true")
		}
	}
}

func TestValid(t *testing.T) {
	for text, want := range map[string]bool{
		"1 0": true, "-1 0": true, "0 1": true, "0 -1": true, "3/5 4/5": true, "-5/13 -12/13": true, "0 0": false, "1 1": false, "1/2 1/2": false,
		"3/5 3/5": false, "3 4": false, "1 1/18446744073709551616": false, "-1 1": false, "2 0": false,
	} {
		if rot(text).Valid() != want {
			t.Error("Valid of", text, !want)
		}
	}
}
