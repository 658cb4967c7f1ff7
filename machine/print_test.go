package machine_test

import (
	"strings"
	"testing"

	"amble/api"
	"amble/machine"
)

// richText is what Print returns for the rich machine.
func richText() string {
	return lines(
		"machine crab_1",
		"trunk trunk 10kg 1/2kgm2 1/10m -1/5m",
		"body Thigh trunk 1/4m -1/8m 2kg 1/11kgm2 1/100m -1/6m -1 3/5",
		"body _shin2 Thigh 1/50m -2/5m 5/4kg 1/21kgm2 1/51m -1/22m -1/23 3/2",
		"body arm trunk -1/3m 1/9m 3/4kg 1/31kgm2 -1/32m 1/33m -7/2 -3",
		"shape trunk -3/8m -3/16m 5/16m -1/7m 3/7m 2/7m -2/9m 4/9m",
		"shape Thigh 1/12m 0m 1/13m 1/14m -1/15m -1/16m",
		"spring trunk 2/41m 3/41m Thigh 4/41m -5/41m 410N/m",
		"spring arm -2/43m 3/43m _shin2 -4/43m 5/43m 43/100N/m",
		"tendon _shin2 2/51m -1/17m trunk 4/51m 5/51m 2/17m",
		"tendon Thigh 2/53m 3/53m arm -4/53m 5/53m 6/53m",
		"motor Thigh 61Nm 31/500J/N2m2s 63/100Hz 64J",
		"motor arm 71Nm 9/125J/N2m2s 73/100Hz 74J",
		"foot _shin2 4/5 -1/81m -2/81m 4/81m -5/82m",
		"foot arm 9/10 1/91m -2/91m",
	)
}

func expectPrint(t *testing.T, name string, d machine.Design, want string) {
	t.Helper()
	text, e := machine.Print(d)
	expectError(t, "Print, "+name, e, api.OK)
	expect(t, "Print, "+name, text, want)
}

// P3.4: the text of a design.
func TestPrint(t *testing.T) {
	expectPrint(t, "no tolerances", machine.Design{Machine: rich()}, richText())
	small := machine.Machine{Name: "m", Bodies: rich().Bodies[:1]}
	small.Bodies[0].Shape = nil
	expectPrint(t, "a trunk", machine.Design{Machine: small}, lines("machine m", "trunk trunk 10kg 1/2kgm2 1/10m -1/5m"))
	d := loose()
	text, e := machine.Print(d)
	expectError(t, "Print", e, api.OK)
	if strings.Count(text, "+-") != len(d.Tolerances) {
		t.Error("Print, all tolerances:", text)
	}
}

// spotOf is where the text of the rich machine has a number: the word of a line.
type spotOf struct{ line, word int }

// wordsOfRich returns where the numbers of the rich machine stand in its text.
func wordsOfRich() map[machine.Place]spotOf {
	words := map[machine.Place]spotOf{}
	add := func(kind uint8, index, field, item, line, word int) {
		words[machine.Place{Kind: kind, Index: index, Field: field, Item: item}] = spotOf{line, word}
	}
	for field := 2; field < 6; field++ {
		add(1, 0, field, 0, 1, field)
	}
	for i := 1; i < 4; i++ {
		for field := range 8 {
			add(1, i, field, 0, i+1, field+3)
		}
	}
	for i, corners := range []int{4, 3} {
		for k := range corners {
			add(1, i, 8, k, 5+i, 2+2*k)
			add(1, i, 9, k, 5+i, 3+2*k)
		}
	}
	for i := range 2 {
		for field, word := range []int{2, 3, 5, 6, 7} {
			add(2, i, field, 0, 7+i, word)
			add(3, i, field, 0, 9+i, word)
		}
		for field := range 4 {
			add(4, i, field, 0, 11+i, field+2)
		}
		add(5, i, 2, 0, 13+i, 2)
		add(5, i, 0, 0, 13+i, 3)
		add(5, i, 1, 0, 13+i, 4)
	}
	add(5, 0, 0, 1, 13, 5)
	add(5, 0, 1, 1, 13, 6)
	return words
}

// P3.4: each tolerance stands behind its number, before the unit.
func TestPrintTolerances(t *testing.T) {
	all, words := loose().Tolerances, wordsOfRich()
	if len(words) != len(all) {
		t.Fatal("the test knows", len(words), "of", len(all), "places")
	}
	for _, tolerance := range all {
		where := words[tolerance.Place]
		want := strings.Split(richText(), "\n")
		line := strings.Split(want[where.line], " ")
		unit := strings.TrimLeft(line[where.word], "-0123456789/")
		number := strings.TrimSuffix(line[where.word], unit)
		line[where.word] = number + "+-" + tolerance.Amount.Text() + unit
		want[where.line] = strings.Join(line, " ")
		d := machine.Design{Machine: rich(), Tolerances: []machine.Tolerance{tolerance}}
		expectPrint(t, placeText(tolerance.Place), d, strings.Join(want, "\n"))
	}
}

// P3.4: designs that are not valid.
func TestPrintErrors(t *testing.T) {
	check := func(name string, d machine.Design, want api.Errno) {
		t.Helper()
		text, e := machine.Print(d)
		expectError(t, "Print, "+name, e, want)
		expect(t, "Print, "+name, text, "")
	}
	check("nothing", machine.Design{}, api.ErrName)
	check("13 bodies", machine.Design{Machine: withBodies(13)}, api.ErrLimit)
	check("an amount of 0", machine.Design{Machine: rich(), Tolerances: []machine.Tolerance{tolerance(1, 0, 2, 0, "0")}}, api.ErrArg)
	check("extremes", machine.Design{Machine: rich(), Tolerances: []machine.Tolerance{tolerance(1, 0, 2, 0, "10")}}, api.ErrArg)
}
