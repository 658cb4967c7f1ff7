package wear_test

import (
	"testing"

	"amble/api"
	"amble/wear"
)

// The properties of moments and phases, for what looks random.

// P11.7: moments keep to the limits of their phases.
func TestMomentLimits(t *testing.T) {
	s := source(1107)
	atMost, slow, far := 0, 0, 0
	for range 500 {
		d, l := s.walker(), s.samples(30)
		acts, e := wear.Act(d, l)
		expectError(t, "Act", e, api.OK)
		before := num("0")
		for _, a := range acts {
			most := d.Limits[a.Phase]
			if a.Moment.Abs().Cmp(most.Moment) > 0 {
				t.Error("the moment", a.Moment.Text(), "is beyond", most.Moment.Text())
			}
			if a.Moment.Abs().Cmp(most.Moment) == 0 {
				atMost++
			}
			isFar := before.Abs().Cmp(most.Moment.Add(most.Rate)) > 0
			isAtRest := a.Phase == wear.Stop && a.Moment.Sign() == 0
			switch step := a.Moment.Sub(before).Abs(); {
			case isFar:
				far++
			case !isAtRest && step.Cmp(most.Rate) > 0:
				t.Error("the moment changes by", step.Text(), "and not at most by", most.Rate.Text())
			case step.Cmp(most.Rate) == 0:
				slow++
			}
			before = a.Moment
		}
	}
	if atMost < 500 || slow < 500 || far < 30 {
		t.Error("only", atMost, "times the greatest moment,", slow, "times the rate,", far, "times far beyond")
	}
}

// P11.8: at a stop no moment is with the movement.
func TestNeverAgainstAStop(t *testing.T) {
	s := source(1108)
	against, none := 0, 0
	for range 500 {
		d, l := s.walker(), s.samples(30)
		for i := range l {
			l[i].Speed = s.number()
		}
		for i := range d.Guards {
			d.Guards[i].Box.Low.Speed, d.Guards[i].Box.High.Speed = num("-9"), num("9")
		}
		acts, e := wear.Act(d, l)
		expectError(t, "Act", e, api.OK)
		for i, a := range acts {
			if a.Phase != wear.Stop {
				continue
			}
			switch product := a.Moment.Mul(l[i].Speed); product.Sign() {
			case 1:
				t.Error("the moment", a.Moment.Text(), "is with the speed", l[i].Speed.Text())
			case -1:
				against++
			case 0:
				none++
			}
		}
		work, e := wear.Work(d, l)
		expectError(t, "Work", e, api.OK)
		if work[wear.Stop].Sign() > 0 {
			t.Error("the work of Stop is", work[wear.Stop].Text())
		}
	}
	if against < 500 || none < 500 {
		t.Error("only", against, "moments against the movement,", none, "others")
	}
}

// P11.9: later samples change nothing.
func TestInTime(t *testing.T) {
	s := source(1109)
	for range 150 {
		d, l := s.walker(), s.samples(25)
		all, e := wear.Act(d, l)
		expectError(t, "Act", e, api.OK)
		for n := range l {
			first, e := wear.Act(d, l[:n])
			expectOK(t, "Act of the first samples", actionsText(first), e, actionsText(all[:n]))
			phases, e := wear.Phases(d, l[:n])
			want, _ := actions(all[:n])
			expectOK(t, "Phases of the first samples", phasesText(phases), e, phasesText(want))
		}
	}
}
