package wear_test

import (
	"testing"

	"amble/api"
	"amble/exact"
	"amble/wear"
)

// P11.5 and P11.13: boxes of records.

// knownText returns the names of the phases that are known.
func knownText(l []bool) string {
	var phases []uint8
	for phase, is := range l {
		if is {
			phases = append(phases, uint8(phase))
		}
	}
	return phasesText(phases)
}

// P11.5: Boxes. Those of phases that are not known are of zeros.
func TestBoxes(t *testing.T) {
	none := boxText(wear.Box{})
	cases := []struct {
		records string
		want    [5]string // the boxes; empty: none
		known   string
		mixed   string
	}{
		{"", [5]string{}, "", ""},
		{"Push 1 2 3 99", [5]string{2: "1 1, 2 2, 3 3"}, "Push", ""},
		{"Push 1 2 3 0, Push -1 5 3 0, Push 0 0 7/2 0", [5]string{2: "-1 1, 0 5, 3 7/2"}, "Push", ""},
		{"Rest 1 1 1 0, Stance 2 2 2 0, Push 3 3 3 0, Swing 4 4 4 0, Stop 5 5 5 0",
			[5]string{"1 1, 1 1, 1 1", "2 2, 2 2, 2 2", "3 3, 3 3, 3 3", "4 4, 4 4, 4 4", "5 5, 5 5, 5 5"}, "Rest Stance Push Swing Stop", ""},
		{"Stop 5 5 5 0, Rest 1 1 1 0, Stop 4 6 5 0", [5]string{0: "1 1, 1 1, 1 1", 4: "4 5, 5 6, 5 5"}, "Rest Stop", ""},
		{"Rest 0 0 0 0, Rest 4 4 4 0, Stance 2 2 2 0", [5]string{0: "0 4, 0 4, 0 4", 1: "2 2, 2 2, 2 2"}, "Rest Stance", "(2 0)"},
		{"Rest 0 0 0 0, Stop 0 0 0 0, Rest 0 0 0 0", [5]string{0: "0 0, 0 0, 0 0", 4: "0 0, 0 0, 0 0"}, "Rest Stop", "(0 4)(1 0)(2 4)"},
		{"Swing 9 9 9 0, Rest 0 0 0 0, Rest 4 4 4 0, Stance 4 0 4 0, Stance 9 9 9 0", // at a corner, and mixed with two
			[5]string{0: "0 4, 0 4, 0 4", 1: "4 9, 0 9, 4 9", 3: "9 9, 9 9, 9 9"}, "Rest Stance Swing", "(0 1)(2 1)(3 0)(4 3)"},
		{"Push 2 2 2 0, Swing 1 1 1 0, Swing 3 3 3 0, Stop 1 1 1 0, Stop 3 3 3 0",
			[5]string{2: "2 2, 2 2, 2 2", 3: "1 3, 1 3, 1 3", 4: "1 3, 1 3, 1 3"}, "Push Swing Stop", "(0 3)(0 4)(1 4)(2 4)(3 3)(4 3)"},
		{"Stance 0 0 0 0, Stance 4 4 4 0, Stop 2 2 5 0, Stop 2 5 2 0, Stop 5 2 2 0, Stop -1 9 9 0", // outside in one number
			[5]string{1: "0 4, 0 4, 0 4", 4: "-1 5, 2 9, 2 9"}, "Stance Stop", "(1 4)"},
		{"Stance 5 5 5 0, Stance 6 6 6 0, Rest 0 0 0 0", [5]string{0: "0 0, 0 0, 0 0", 1: "5 6, 5 6, 5 6"}, "Rest Stance", ""},
		{"Stance 5 5 5 0, Stance -6 -6 -6 0, Rest 7 0 0 0, Rest 0 7 0 0", [5]string{0: "0 7, 0 7, 0 0", 1: "-6 5, -6 5, -6 5"}, "Rest Stance", ""},
	}
	for _, c := range cases {
		boxes, known, mixed, e := wear.Boxes(records(c.records))
		want := ""
		for _, b := range c.want {
			if b == "" {
				want += "{" + none + "}"
			} else {
				want += "{" + boxText(box(b)) + "}"
			}
		}
		expectOK(t, "Boxes of "+c.records, boxesText(boxes), e, want)
		expect(t, "the known phases of "+c.records, knownText(known), c.known)
		expect(t, "what is mixed of "+c.records, pairsText(mixed), c.mixed)
		if len(known) != 5 {
			t.Error("Boxes tells of", len(known), "phases whether they are known")
		}
	}
}

func TestBoxesErrors(t *testing.T) {
	right := records("Rest 1 2 3 4")[0]
	long := times(api.MaxWorn, right)
	wrong := func(phase uint8) wear.Record { r := right; r.Phase = phase; return r }
	_, _, _, e := wear.Boxes(long)
	expectError(t, "Boxes of MaxWorn records", e, api.OK)
	cases := []struct {
		l    []wear.Record
		want api.Errno
	}{
		{append(long, right), api.ErrLimit},
		{append(long, wrong(5)), api.ErrArg},
		{append([]wear.Record{wrong(200)}, long...), api.ErrArg},
		{[]wear.Record{wrong(5)}, api.ErrArg},
		{[]wear.Record{right, wrong(255), right}, api.ErrArg},
	}
	for i, c := range cases {
		boxes, known, mixed, e := wear.Boxes(c.l)
		expectError(t, "Boxes of wrong records", e, c.want)
		if len(boxes)+len(known)+len(mixed) != 0 {
			t.Error("Boxes of wrong records gives something:", i)
		}
	}
}

// P11.5 and P11.13: boxes hold the samples of their records, are the least ones,
// and hold others just where these are mixed.
func TestTaught(t *testing.T) {
	s := source(1113)
	apart, mixedUp := 0, 0
	for round := range 600 {
		l := s.records(1+s.below(12), 2+s.below(4))
		if round%2 == 0 { // phases that are apart
			for i := range l {
				l[i].Sample.Angle = l[i].Sample.Angle.Add(exact.Int(4 * int64(l[i].Phase)))
			}
		}
		boxes, known, mixed, e := wear.Boxes(l)
		expectError(t, "Boxes", e, api.OK)
		want := [5][]wear.Sample{}
		for _, r := range l {
			want[r.Phase] = append(want[r.Phase], r.Sample)
		}
		for phase, b := range boxes {
			if known[phase] != (len(want[phase]) > 0) {
				t.Error("it is wrong whether", phase, "is known")
			}
			least := wear.Box{}
			if known[phase] {
				least = around(want[phase]...)
			}
			expect(t, "the box of a phase", boxText(b), boxText(least))
		}
		var pairs [][2]int
		for i, r := range l {
			for phase := range boxes {
				if known[phase] && phase != int(r.Phase) && lies(r.Sample, boxes[phase]) {
					pairs = append(pairs, [2]int{i, phase})
				}
			}
		}
		expect(t, "what is mixed", pairsText(mixed), pairsText(pairs))
		if len(mixed) > 0 {
			mixedUp++
			continue
		}
		apart++
		expectTaught(t, l, boxes, known)
	}
	if apart < 200 || mixedUp < 100 {
		t.Error("only", apart, "times apart,", mixedUp, "times mixed")
	}
}

// expectTaught compares what guards made of boxes recognise with the phases of
// the records.
func expectTaught(t *testing.T, l []wear.Record, boxes []wear.Box, known []bool) {
	t.Helper()
	for _, r := range l {
		for from := range uint8(5) {
			d := device()
			for phase, b := range boxes {
				if known[phase] && phase != int(from) {
					d.Guards = append(d.Guards, wear.Guard{From: from, To: uint8(phase), Box: b, Hold: 1})
				}
			}
			want := r.Phase
			if from != wear.Rest { // the guards are none of Rest's
				want = wear.Rest
			}
			phases, e := wear.Phases(d, []wear.Sample{r.Sample})
			expectOK(t, "Phases of a record's sample", phasesText(phases), e, phasesText([]uint8{want}))
		}
	}
}
