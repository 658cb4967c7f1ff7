package control_test

import (
	"math"
	"strconv"
	"testing"

	"amble/api"
	"amble/control"
	"amble/exact"
)

// stop returns the way to stop from a speed that is not below 0, as the sum of
// the chapter.
func (r rider) stop(speed exact.Q) exact.Q {
	var sum exact.Q
	for speed.Sign() > 0 {
		speed = exact.Max(exact.Q{}, speed.Sub(r.Step.Mul(r.Most)))
		sum = sum.Add(speed)
	}
	return r.Step.Mul(sum)
}

// isSafe reports whether place and speed are safe, by the chapter's words.
func (r rider) isSafe() bool {
	through := exact.Int(int64(r.delay)).Mul(r.Step)
	v, u := exact.Max(exact.Q{}, r.speed), exact.Max(exact.Q{}, r.speed.Neg())
	return isIn(r.Low, r.place, r.High) &&
		exact.Sum(r.place, through.Mul(v), r.stop(v)).Cmp(r.High) <= 0 &&
		exact.Sum(r.place, through.Mul(u).Neg(), r.stop(u).Neg()).Cmp(r.Low) >= 0
}

// after returns the rider behind a cycle.
func (r rider) after(accel exact.Q) rider {
	r.speed = r.speed.Add(r.Step.Mul(accel))
	r.place = r.place.Add(r.Step.Mul(r.speed))
	return r
}

func (r rider) safe() (bool, api.Errno) { return control.Safe(r.Rein, r.place, r.speed, r.delay) }

func (r rider) hold(wanted exact.Q) (exact.Q, api.Errno) {
	return control.Hold(r.Rein, r.place, r.speed, wanted, r.delay)
}

func (r rider) drive(wanted []exact.Q, f control.Lost) ([]control.Motion, api.Errno) {
	return control.Drive(r.Rein, r.place, r.speed, wanted, r.delay, f)
}

func (r rider) text() string {
	return reinText(r.Rein) + numsText([]exact.Q{r.place, r.speed}) + strconv.Itoa(r.delay)
}

// riding returns the rider of texts: the rein, and place and speed.
func riding(r, now string, delay int) rider {
	l := nums(now)
	return rider{rein(r), l[0], l[1], delay}
}

// P9.8: places and speeds that are written out; the way to stop is that of the
// chapter's example.
func TestSafe(t *testing.T) {
	for _, c := range []struct {
		rein, now string
		delay     int
		want      bool
	}{
		{"0 10 1 1", "7 3", 0, true},
		{"0 10 1 1", "7 3", 1, false},
		{"0 10 1 1", "7001/1000 3", 0, false},
		{"0 10 1 1", "7 3001/1000", 0, false},
		{"0 10 1 1", "4 3", 1, true},
		{"0 10 1 1", "4001/1000 3", 1, false},
		{"0 10 1 1", "3 -3", 0, true},
		{"0 10 1 1", "3 -3", 1, false},
		{"0 10 1 1", "2999/1000 -3", 0, false},
		{"0 10 1 1", "6 -3", 1, true},
		{"0 10 1 1", "5999/1000 -3", 1, false},
		{"0 10 1 1", "10 0", 16, true},
		{"0 10 1 1", "0 0", 16, true},
		{"0 10 1 1", "10001/1000 0", 0, false},
		{"0 10 1 1", "-1/1000 0", 0, false},
		{"0 10 1 1", "10 1", 0, true}, // it stops within a cycle, without moving
		{"0 10 1 1", "10 1", 1, false},
		{"0 10 1 1", "10 1001/1000", 0, false},
		{"0 10 1 1", "0 -1", 0, true},
		{"0 10 1 1", "0 -1", 1, false},
		{"0 10 1 1", "0 -1001/1000", 0, false},
		{"0 10 1 1", "10 -1", 0, true},
		{"0 10 1 1", "10 -5", 0, true}, // 4 + 3 + 2 + 1
		{"0 10 1 1", "10 -5001/1000", 0, false},
		{"0 10 1 1", "0 5", 0, true},
		{"0 10 1 1", "0 5001/1000", 0, false},
		{"0 10 1 1", "11 -1", 0, false},
		{"0 10 1 1", "-1 1", 0, false},
		{"0 10 1 1", "13/2 7/2", 0, false}, // 5/2 + 3/2 + 1/2
		{"0 10 1 1", "11/2 7/2", 0, true},
		{"5 5 1 1", "5 0", 16, true},
		{"5 5 1 1", "5 1", 0, true},
		{"5 5 1 1", "5 -1", 0, true},
		{"5 5 1 1", "5 1/1000", 1, false},
		{"5 5 1 1", "5 -1/1000", 1, false},
		{"5 5 1 1", "4 0", 0, false},
		{"0 10 2 1/2", "9 2", 0, true}, // half of 1
		{"0 10 2 1/2", "9 3", 0, false},
		{"0 10 2 1/2", "17/2 3", 0, true}, // half of 2 + 1
		{"0 10 2 1/2", "17/2 3", 1, false},
		{"0 10 2 1/2", "7 3", 1, true},
		{"-10 0 1/2 2", "-7 2", 0, true}, // twice 1
		{"-10 0 1/2 2", "-6 2", 1, true},
		{"-10 0 1/2 2", "-5 2", 1, false},
	} {
		got, e := riding(c.rein, c.now, c.delay).safe()
		expectOK(t, "Safe of "+c.rein+", "+c.now+", "+strconv.Itoa(c.delay), strconv.FormatBool(got), e, strconv.FormatBool(c.want))
	}
}

// P9.8: riders that look random, compared with the chapter's sums.
func TestRandomSafe(t *testing.T) {
	s := source(980)
	safe := 0
	for range 3000 {
		r := s.rider()
		got, e := r.safe()
		expectOK(t, "Safe of "+r.text(), strconv.FormatBool(got), e, strconv.FormatBool(r.isSafe()))
		if got {
			safe++
		}
	}
	if safe < 500 || safe > 2500 {
		t.Error("of 3000", safe, "are safe")
	}
}

// P9.8: accelerations that are written out.
func TestHold(t *testing.T) {
	for _, c := range []struct {
		rein, now, wanted string
		delay             int
		want              string
	}{
		{"0 10 1 1", "0 0", "5", 0, "1"},
		{"0 10 1 1", "0 0", "1", 0, "1"},
		{"0 10 1 1", "0 0", "1/3", 0, "1/3"},
		{"0 10 1 1", "0 0", "0", 0, "0"},
		{"0 10 1 1", "0 0", "-1/3", 0, "0"},
		{"0 10 1 1", "0 0", "-5", 16, "0"},
		{"0 10 1 1", "10 0", "5", 0, "0"},
		{"0 10 1 1", "10 0", "-5", 0, "-1"},
		{"0 10 1 1", "7 3", "1", 0, "-1"},
		{"0 10 1 1", "7 3", "-1", 0, "-1"},
		{"0 10 1 1", "7 3", "-5", 0, "-1"},
		{"0 10 1 1", "3 -3", "-1", 0, "1"},
		{"0 10 1 1", "6 3", "1", 0, "-2/3"},  // the speed 7/3: 6 + 7/3 + 4/3 + 1/3
		{"0 10 1 1", "4 -3", "-1", 0, "2/3"}, // the same, mirrored
		{"0 10 1 1", "6 3", "-2/3", 0, "-2/3"},
		{"0 10 1 1", "6 3", "-7/10", 0, "-7/10"},
		{"0 10 1 1", "9 0", "1", 0, "1"},   // to 10 with 1, and it stops there
		{"0 10 1 1", "9 0", "1", 1, "1/2"}, // to 19/2 with 1/2, and one more cycle
		{"0 10 1 1", "9 0", "1", 3, "1/4"},
		{"0 10 1 1", "9 1", "1", 0, "0"},
		{"0 10 1 1", "10 1", "1", 0, "-1"},
		{"0 10 1 1", "10 1", "-1", 0, "-1"},
		{"0 10 1 1", "10 -1", "1", 0, "1"},
		{"0 10 1 1", "10 -1", "1/2", 0, "1/2"},
		{"0 10 1 1", "1 -1", "-1", 0, "0"},
		{"0 10 1 1", "1 -1", "-1", 1, "1/2"},
		{"5 5 1 1", "5 0", "1", 0, "0"},
		{"5 5 1 1", "5 0", "-1", 3, "0"},
		{"5 5 1 1", "5 1", "1", 0, "-1"},
		{"5 5 1 1", "5 -1/2", "1", 0, "1/2"},
		{"0 10 2 1/2", "0 0", "9", 0, "2"},
		{"0 10 2 1/2", "9 2", "9", 0, "-1"}, // the speed 3/2: half of 3/2 + 1/2
		{"0 10 2 1/2", "19/2 1", "9", 0, "0"},
		{"0 10 2 1/2", "39/4 1", "9", 0, "-1"},
		{"0 1000000 1/1000 1", "0 0", "1", 16, "1/1000"},
	} {
		r := riding(c.rein, c.now, c.delay)
		got, e := r.hold(num(c.wanted))
		expectOK(t, "Hold of "+r.text()+", wanted "+c.wanted, got.Text(), e, c.want)
	}
}

// isHeld reports whether an acceleration is one after which a rider is safe.
func (r rider) isHeld(accel exact.Q) bool {
	return accel.Abs().Cmp(r.Most) <= 0 && r.after(accel).isSafe()
}

// P9.8: accelerations of riders that look random: each is allowed, and none that
// is nearer to what is wanted.
func TestRandomHold(t *testing.T) {
	s := source(981)
	counts := map[string]int{}
	for range 1500 {
		r, wanted := s.safe(), s.wishes(1)[0]
		got, e := r.hold(wanted)
		name := "Hold of " + r.text() + ", wanted " + wanted.Text()
		expectError(t, name, e, api.OK)
		expectBool(t, name+" is "+got.Text()+", which is allowed", r.isHeld(got), true)
		if got.Cmp(wanted) == 0 {
			counts["as wanted"]++
			continue
		}
		counts["held"]++
		if got.Abs().Cmp(r.Most) < 0 {
			counts["between"]++
		}
		way := wanted.Sub(got)
		for _, part := range nums("1 1/2 1/3 1/10 1/1000 1/1000000000000") {
			nearer := got.Add(way.Mul(part))
			expectBool(t, name+": "+nearer.Text(), r.isHeld(nearer), false)
			nearer = wanted.Add(way.Mul(num("1").Sub(part))) // beyond, but not farther
			expectBool(t, name+": "+nearer.Text(), r.isHeld(nearer), false)
		}
	}
	if counts["as wanted"] < 200 || counts["between"] < 200 || counts["held"]-counts["between"] < 100 {
		t.Error("held accelerations:", counts)
	}
}

// P9.8: motions that are written out.
func TestDrive(t *testing.T) {
	for _, c := range []struct {
		name, rein, now, wanted string
		delay, at, long         int
		want                    string
	}{
		{"no wishes", "0 10 1 1", "0 0", "", 0, 0, 0, ""},
		{"to the limit", "0 3 1 1", "0 0", "5 5 5 5 5", 0, 0, 0, "[1 1 1][1/2 3/2 5/2][-1 1/2 3][-1/2 0 3][0 0 3]"},
		{"to the other limit", "-3 0 1 1", "0 0", "-5 -5 -5 -5 -5", 0, 0, 0, "[-1 -1 -1][-1/2 -3/2 -5/2][1 -1/2 -3][1/2 0 -3][0 0 -3]"},
		{"to and fro", "0 3 1 1", "0 0", "1 -1 -1 -1", 0, 0, 0, "[1 1 1][-1 0 1][-1 -1 0][1 0 0]"},
		{"nothing is lost", "0 10 1 1", "0 0", "1 0 1", 3, 1, 0, "[1 1 1][0 1 2][4/5 9/5 19/5]"},
		{"lost at once", "0 10 1 1", "0 0", "1 1 1", 2, 0, 1, "[0 0 0][0 0 0][0 0 0]"},
		{"lost at once, with a speed", "0 10 1 1", "2 3/2", "1 1 1 1", 2, 0, 2, "[0 3/2 7/2][0 3/2 5][-1 1/2 11/2][-1/2 0 11/2]"},
		{"lost later", "0 10 1 1", "0 0", "1 1/2 1 1 1 1", 2, 2, 1, "[1 1 1][1/2 3/2 5/2][0 3/2 4][-1 1/2 9/2][-1/2 0 9/2][0 0 9/2]"},
		{"lost backward", "0 10 1 1", "10 0", "-1 -1/2 1 1 1 1", 2, 2, 1, "[-1 -1 9][-1/2 -3/2 15/2][0 -3/2 6][1 -1/2 11/2][1/2 0 11/2][0 0 11/2]"},
		{"lost in the last cycle", "0 10 1 1", "0 0", "1 -1/2 1", 1, 2, 1, "[1 1 1][-1/2 1/2 3/2][0 1/2 2]"},
		{"lost behind the last cycle", "0 10 1 1", "0 0", "1 -1/2 1", 1, 3, 1, "[1 1 1][-1/2 1/2 3/2][1 3/2 3]"},
		{"other numbers", "0 10 2 1/2", "0 1", "1 5", 1, 1, 1, "[1 3/2 3/4][0 3/2 3/2]"},
	} {
		r := riding(c.rein, c.now, c.delay)
		got, e := r.drive(nums(c.wanted), control.Lost{At: c.at, Long: c.long})
		expectOK(t, "Drive: "+c.name, motionsText(got), e, c.want)
	}
}

// driven returns the motions by the chapter's words, with what Hold gives.
func (r rider) driven(wanted []exact.Q, f control.Lost) []control.Motion {
	var motions []control.Motion
	for i, want := range wanted {
		accel, e := r.hold(want)
		if f.Long > 0 && i >= f.At {
			accel, e = exact.Q{}, api.OK
			if i > f.At+f.Long-1 {
				accel = inside(r.Most.Neg(), over(r.speed.Neg(), r.Step), r.Most)
			}
		}
		if e != api.OK {
			panic("a rider that is not safe: " + r.text())
		}
		r = r.after(accel)
		motions = append(motions, control.Motion{Accel: accel, Speed: r.speed, Place: r.place})
	}
	return motions
}

// P9.8: drives that look random, compared with a second writing.
func TestRandomDrive(t *testing.T) {
	s := source(982)
	for range 600 {
		r := s.safe()
		wanted, f := s.wishes(s.below(14)), s.lost(r.delay)
		got, e := r.drive(wanted, f)
		name := "Drive of " + r.text() + " with " + numsText(wanted) + ", " + strconv.Itoa(f.Long) + " lost at " + strconv.Itoa(f.At)
		expectOK(t, name, motionsText(got), e, motionsText(r.driven(wanted, f)))
	}
}

// P9.8: errors of reins and delays, in their order.
func TestReinErrors(t *testing.T) {
	for _, c := range []struct {
		name, rein, now string
		delay           int
		safe, hold      api.Errno
	}{
		{"all is right", "0 10 1 1", "5 0", 0, api.OK, api.OK},
		{"equal limits", "5 5 1 1", "5 0", 16, api.OK, api.OK},
		{"Low above High", "6 5 1 1", "5 0", 0, api.ErrArg, api.ErrArg},
		{"Most 0", "0 10 0 1", "5 0", 0, api.ErrArg, api.ErrArg},
		{"Most below 0", "0 10 -1 1", "5 0", 0, api.ErrArg, api.ErrArg},
		{"Step 0", "0 10 1 0", "5 0", 0, api.ErrArg, api.ErrArg},
		{"Step below 0", "0 10 1 -1", "5 0", 0, api.ErrArg, api.ErrArg},
		{"both below 0", "0 10 -1 -1", "5 0", 0, api.ErrArg, api.ErrArg},
		{"a delay of 16", "0 10 1 1", "5 0", 16, api.OK, api.OK},
		{"a delay of 17", "0 10 1 1", "5 0", 17, api.ErrRange, api.ErrRange},
		{"a delay of -1", "0 10 1 1", "5 0", -1, api.ErrRange, api.ErrRange},
		{"the least delay", "0 10 1 1", "5 0", math.MinInt, api.ErrRange, api.ErrRange},
		{"the greatest delay", "0 10 1 1", "5 0", math.MaxInt, api.ErrRange, api.ErrRange},
		{"a wrong rein and a wrong delay", "0 10 1 0", "5 0", 17, api.ErrArg, api.ErrArg},
		{"a place that is not safe", "0 10 1 1", "11 0", 0, api.OK, api.ErrState},
		{"a speed that is not safe", "0 10 1 1", "5 9", 0, api.OK, api.ErrState},
		{"a wrong delay, and not safe", "0 10 1 1", "11 0", 17, api.ErrRange, api.ErrRange},
		{"a wrong rein, and not safe", "0 10 -1 1", "11 0", 0, api.ErrArg, api.ErrArg},
	} {
		r := riding(c.rein, c.now, c.delay)
		is, e := r.safe()
		expectError(t, "Safe: "+c.name, e, c.safe)
		expectBool(t, "Safe: "+c.name, is, c.hold == api.OK)
		a, e := r.hold(num("1/2"))
		expectError(t, "Hold: "+c.name, e, c.hold)
		motions, e := r.drive(nums("1/2"), control.Lost{})
		expectError(t, "Drive: "+c.name, e, c.hold)
		if c.hold != api.OK {
			expect(t, "Hold: "+c.name, a.Text(), "0")
			expect(t, "Drive: "+c.name, motionsText(motions), "")
		}
	}
}

// P9.8: errors of wishes and losses, in their order.
func TestDriveErrors(t *testing.T) {
	safe, not, wrong := riding("0 10 1 1", "5 0", 3), riding("0 10 1 1", "11 0", 3), riding("0 10 1 1", "11 0", 17)
	for _, c := range []struct {
		name     string
		r        rider
		wishes   int
		at, long int
		want     api.Errno
	}{
		{"all is right", safe, 2, 0, 0, api.OK},
		{"a loss of the delay", safe, 2, 0, 3, api.OK},
		{"a loss of one more", safe, 2, 0, 4, api.ErrArg},
		{"a loss of one more, behind the last cycle", safe, 2, 99, 4, api.ErrArg},
		{"a loss below 0", safe, 2, 0, -1, api.ErrArg},
		{"At below 0", safe, 2, -1, 1, api.ErrArg},
		{"At below 0, with nothing lost", safe, 2, -1, 0, api.ErrArg},
		{"the least At", safe, 2, math.MinInt, 1, api.ErrArg},
		{"the greatest At", safe, 2, math.MaxInt, 3, api.OK},
		{"the least Long", safe, 2, 0, math.MinInt, api.ErrArg},
		{"the greatest Long", safe, 2, 0, math.MaxInt, api.ErrArg},
		{"MaxCycles wishes", safe, api.MaxCycles, 0, 0, api.OK},
		{"more wishes", safe, api.MaxCycles + 1, 0, 0, api.ErrLimit},
		{"more wishes, and a wrong loss", safe, api.MaxCycles + 1, -1, 9, api.ErrLimit},
		{"not safe, and more wishes", not, api.MaxCycles + 1, -1, 9, api.ErrState},
		{"not safe, and a wrong loss", not, 2, -1, 9, api.ErrState},
		{"not safe, and no wishes", not, 0, 0, 0, api.ErrState},
		{"a wrong delay and all that", wrong, api.MaxCycles + 1, -1, 9, api.ErrRange},
	} {
		got, e := c.r.drive(make([]exact.Q, c.wishes), control.Lost{At: c.at, Long: c.long})
		expectError(t, "Drive: "+c.name, e, c.want)
		n := c.wishes
		if c.want != api.OK {
			n = 0
		}
		expect(t, "the motions of Drive: "+c.name, strconv.Itoa(len(got)), strconv.Itoa(n))
	}
	none := riding("0 10 1 1", "5 0", 0)
	_, e := none.drive(nums("1"), control.Lost{Long: 1})
	expectError(t, "Drive: a loss without a delay", e, api.ErrArg)
	_, e = none.drive(nums("1"), control.Lost{})
	expectError(t, "Drive: no loss without a delay", e, api.OK)
}

// P9.8: a speed from which it takes very many cycles to stop.
func TestLongWays(t *testing.T) {
	great := power(200)
	n := great.Mul(great.Sub(num("1"))) // (g - 1) + .. + 1, twice
	r := rider{control.Rein{High: n, Most: num("1"), Step: num("1")}, over(n, num("2")), great, 0}
	is, e := r.safe()
	expectOK(t, "Safe with a great speed", strconv.FormatBool(is), e, "true")
	a, e := r.hold(num("1"))
	expectOK(t, "Hold with a great speed", a.Text(), e, "-1")
	r.place = r.place.Add(num("1/1000"))
	is, e = r.safe()
	expectOK(t, "Safe a little farther", strconv.FormatBool(is), e, "false")
	r.place = r.place.Sub(num("2/1000"))
	// With the acceleration -1 + a the speeds of the next g cycles are greater by
	// a, and all ways together by g a.
	a, e = r.hold(num("1"))
	expectOK(t, "Hold a little less far", a.Text(), e, over(num("1/1000"), great).Sub(num("1")).Text())
}
