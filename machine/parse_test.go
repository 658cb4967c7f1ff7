package machine_test

import (
	"strconv"
	"strings"
	"testing"

	"amble/api"
	"amble/machine"
)

// expectParse compares the design of a text.
func expectParse(t *testing.T, name, text string, want machine.Design) {
	t.Helper()
	d, line, e := machine.Parse(text)
	if e != api.OK || line != 0 {
		t.Errorf("Parse, %s: the error %d in line %d", name, e, line)
	}
	expect(t, "Parse, "+name, designText(d), designText(want))
}

// expectNoParse compares the error of a text.
func expectNoParse(t *testing.T, name, text string, line int, want api.Errno) {
	t.Helper()
	d, n, e := machine.Parse(text)
	if e != want || n != line {
		t.Errorf("Parse, %s: got the error %d in line %d, want %d in line %d", name, e, n, want, line)
	}
	expect(t, "Parse, "+name+": the design", designText(d), designText(machine.Design{}))
}

// base returns lines to which others are added: a machine with a trunk and two
// bodies, one of them with a shape.
func base() []string {
	return []string{
		"machine m",
		"trunk a 1kg 1kgm2 0m 0m",
		"body b a 1m 0m 1kg 1kgm2 0m 0m -1 1",
		"body c b 1m 0m 1kg 1kgm2 0m 0m -1 1",
		"shape b 0m 0m 1m 0m 0m 1m",
	}
}

// expectLine compares the error of a line behind base and other lines.
func expectLine(t *testing.T, want api.Errno, line string, before ...string) {
	t.Helper()
	all := append(append(base(), before...), line)
	if want == api.OK {
		parsed(t, lines(all...))
		return
	}
	expectNoParse(t, line, lines(all...), len(all), want)
}

// P3.3: lines of all kinds.
func TestParse(t *testing.T) {
	text := strings.Join([]string{
		"# a machine with all kinds of lines",
		"",
		"   machine   crab_1  ",
		"trunk trunk 10000g 5000kgcm2 10cm -200mm",
		"  body Thigh trunk 0.25m -12.5cm 0.002t 10000/11kgcm2 1cm -1/6m -1 3/5",
		"   #body Thigh",
		"shape Thigh 1/12m 0m 1/13m 1/14m -1/15m -1/16m",
		"      ",
		"body _shin2 Thigh 20mm -2/5m 1.25kg 10000000/21gcm2 1/51m -1/22m -1/23 1.5",
		"spring trunk 2/41m 3/41m Thigh 400/41cm -5/41m 0.41kN/m",
		"#",
		"tendon _shin2 2/51m -3/51m trunk 4/51m 5/51m 6000/51mm",
		"motor Thigh 0.061kNm 62mJ/N2m2s 630mHz 0.064kJ",
		"body arm trunk -1/3m 1/9m 3/4kg 1/31kgm2 -1/32m 1/33m -7/2 -3",
		"motor arm 71000mNm 0.072J/N2m2s 0.73Hz 74J",
		"foot _shin2 4/5 -1/81m -2/81m 4/81m -5/82m",
		"spring arm -2/43m 3/43m _shin2 -4/43m 5/43m 0.00043N/mm",
		"tendon Thigh 2/53m 3/53m arm -4/53m 5/53m 6/53m",
		"shape trunk -3/8m -3/16m 5/16m -1/7m 3/7m 2/7m -2/9m 4/9m",
		"foot arm 0.9 1/91m -2/91m",
	}, "\n")
	want := machine.Design{Machine: rich()}
	expectParse(t, "the rich machine, and no line feed at the end", text, want)
	expectParse(t, "the rich machine", text+"\n", want)
	expectParse(t, "the rich machine, and empty lines", "\n  \n"+text+"\n\n  \n#", want)
	expectParse(t, "the rich machine, with more blanks", strings.ReplaceAll(text, " ", "   "), want)
}

// P3.3: tolerances, which get the order of their places.
func TestParseTolerances(t *testing.T) {
	text := lines("machine m", "trunk a 10+-1kg 1+-1/2kgm2 0+-1cm 0+-2cm", "foot a 1+-1/4 0+-0.1m 1+-0.2m 2+-0.3m 3+-0.4m",
		"body b a 1+-3mm 0+-4mm 2+-1g 3+-2gcm2 4+-5m 5+-6m -1+-1/10 1+-1/5", "motor b 1+-0.01Nm 1+-0.02J/N2m2s 1+-0.03Hz 1+-0.04J",
		"tendon b 1+-3m 2+-4m a 3+-5m 4+-6m 5+-4m", "spring a 1+-30m 2+-40m b 3+-50m 4+-60m 5+-4N/m",
		"shape b 0+-1mm 0+-2mm 10+-3cm 0+-4mm 0+-5mm 10+-6cm", "spring b 0m 0m a 0m 0m 7+-6kN/m")
	want := "[1 0 2 0]1 [1 0 3 0]1/2 [1 0 4 0]1/100 [1 0 5 0]1/50" +
		" [1 1 0 0]3/1000 [1 1 1 0]1/250 [1 1 2 0]1/1000 [1 1 3 0]1/5000000 [1 1 4 0]5 [1 1 5 0]6 [1 1 6 0]1/10 [1 1 7 0]1/5" +
		" [1 1 8 0]1/1000 [1 1 8 1]3/100 [1 1 8 2]1/200 [1 1 9 0]1/500 [1 1 9 1]1/250 [1 1 9 2]3/50" +
		" [2 0 0 0]30 [2 0 1 0]40 [2 0 2 0]50 [2 0 3 0]60 [2 0 4 0]4 [2 1 4 0]6000" +
		" [3 0 0 0]3 [3 0 1 0]4 [3 0 2 0]5 [3 0 3 0]6 [3 0 4 0]4" +
		" [4 0 0 0]1/100 [4 0 1 0]1/50 [4 0 2 0]3/100 [4 0 3 0]1/25" +
		" [5 0 0 0]1/10 [5 0 0 1]3/10 [5 0 1 0]1/5 [5 0 1 1]2/5 [5 0 2 0]1/4"
	d := parsed(t, text)
	got := strings.TrimPrefix(designText(d), machineText(d.Machine)+" ")
	expect(t, "the tolerances", got, want)
	none := machine.Design{Machine: parsed(t, lines(base()...)).Machine}
	text = lines(base()...)
	for _, old := range []string{"1kg ", "0m 0m -1 1", "1m 0m 0m 1m", "1kgm2 "} {
		number := strings.TrimRight(old, " ")
		text = strings.ReplaceAll(text, old, zeroAmounts(number)+old[len(number):])
	}
	if strings.Count(text, "+-") < 15 {
		t.Error("the test has few tolerances of 0:", text)
	}
	expectParse(t, "tolerances of 0", text, none)
}

// zeroAmounts returns quantities with tolerances of 0.
func zeroAmounts(quantities string) string {
	words := strings.Fields(quantities)
	for i, w := range words {
		number := strings.TrimRight(w, "abcdefghijklmnopqrstuvwxyz2")
		words[i] = number + "+-" + []string{"0", "0.0", "0/7"}[i%3] + w[len(number):]
	}
	return strings.Join(words, " ")
}

// P3.3: lines that are ignored count, and those that seem so.
func TestParseIgnored(t *testing.T) {
	want := parsed(t, lines(base()...))
	for _, ignored := range []string{"", " ", "     ", "#", " #", "# machine x", "#machine", "   ##", "#\t\xff\x00"} {
		all := base()
		for i := range len(all) + 1 {
			text := append(append(append([]string{}, all[:i]...), ignored), all[i:]...)
			expectParse(t, "ignored: "+ignored, lines(text...), want)
			expectParse(t, "ignored: "+ignored, strings.Join(text, "\n"), want)
		}
		expectNoParse(t, "behind ignored lines", lines(ignored, ignored, "x", ignored), 3, api.ErrForm)
		expectNoParse(t, "behind ignored lines, and no line feed", ignored+"\n"+ignored+"\nx", 3, api.ErrForm)
	}
	for _, line := range []string{"\t", "\r", "\x00", "x", "x#", "\t#", "\xff", "\u00a0", "//"} {
		expectLine(t, api.ErrForm, line)
		expectNoParse(t, line, line, 1, api.ErrForm)
	}
	expectNoParse(t, "a tab", "machine\tm", 1, api.ErrForm)
	expectNoParse(t, "a tab before", "\tmachine m", 1, api.ErrForm)
	expectNoParse(t, "a tab behind", "machine m\t", 1, api.ErrName)
	expectNoParse(t, "a carriage return", "machine m\r\n", 1, api.ErrName)
	expectNoParse(t, "a comment behind", "machine m # m", 1, api.ErrForm)
	expectNoParse(t, "a name with #", "machine m#", 1, api.ErrName)
	expectLine(t, api.ErrUnit, "foot a 1 0m 0m\r")
	expectLine(t, api.ErrForm, "foot a 1 0m 0m #")
	expectLine(t, api.OK, "foot a 1 0m 0m     ")
}

// P3.3: other first words, and other numbers of words.
func TestParseForm(t *testing.T) {
	for _, word := range []string{"Machine", "trunks", "bod", "leg", "feet", "FOOT", "machine:", "m"} {
		expectNoParse(t, word, word+" m", 1, api.ErrForm)
		expectLine(t, api.ErrForm, word+" a 1 0m 0m")
	}
	counts := map[string][]int{"machine": {2}, "trunk": {6}, "body": {11}, "shape": {8, 10, 12, 14, 16, 18, 20, 22, 24, 26}, "spring": {8}, "tendon": {8}, "motor": {6}, "foot": {5, 7}}
	for word, right := range counts {
		for n := 1; n < 40; n++ {
			line := word + strings.Repeat(" 1", n-1)
			want := api.ErrForm
			for _, count := range right {
				if count == n && word == "machine" {
					want = api.ErrName
				} else if count == n {
					want = api.ErrState
				}
			}
			expectNoParse(t, word+" with "+strconv.Itoa(n)+" words", line, 1, want)
		}
	}
	long := strings.Repeat(" 1", 30000)
	expectNoParse(t, "very many words", "shape"+long, 1, api.ErrForm)
}

// P3.3: lines at the wrong place.
func TestParseState(t *testing.T) {
	right := append(base()[1:], "spring a 0m 0m b 0m 0m 1N/m", "tendon a 0m 0m b 0m 0m 1m", "motor b 1Nm 1J/N2m2s 1Hz 1J", "foot a 1 0m 0m")
	for _, line := range right {
		expectNoParse(t, line+" as the first line", line, 1, api.ErrState)
		expectNoParse(t, line+" behind a comment", "# m\n\n"+line, 3, api.ErrState)
	}
	expectLine(t, api.ErrState, "machine m")
	expectLine(t, api.ErrState, "machine 1")
	expectNoParse(t, "machine twice", "machine m\nmachine n\n", 2, api.ErrState)
	expectNoParse(t, "machine with a wrong name", "\nmachine 1\nx", 2, api.ErrName)
	expectLine(t, api.ErrState, "trunk d 1kg 1kgm2 0m 0m")
	expectLine(t, api.ErrState, "trunk 1 x x x x")
	expectNoParse(t, "two trunks and nothing else", lines(append(base()[:2], "trunk d 1kg 1kgm2 0m 0m")...), 3, api.ErrState)
	expectNoParse(t, "a body and no trunk", "machine m\nbody b a 1m 0m 1kg 1kgm2 0m 0m -1 1", 2, api.ErrState)
	expectNoParse(t, "a body without names and no trunk", "machine m\nbody 1 1 x x x x x x x x", 2, api.ErrState)
	for _, line := range []string{right[3], right[4], right[5], right[6], right[7]} {
		expectNoParse(t, line+" before the trunk", "machine m\n"+line, 2, api.ErrName)
	}
	expectLine(t, api.ErrState, "shape b 0m 0m 1m 0m 0m 1m")
	expectLine(t, api.ErrState, "shape b x 0m 1m 0m 0m 1kg")
	expectLine(t, api.OK, "shape c 0m 0m 1m 0m 0m 1m")
	expectLine(t, api.ErrState, "shape c 0m 0m 1m 0m 0m 1m", "shape c 0m 0m 1m 0m 0m 1m")
}

// P3.3: names in lines.
func TestParseNames(t *testing.T) {
	for _, name := range []string{"1", "a-b", "ä", "\t", "_.", strings.Repeat("x", 33)} {
		expectNoParse(t, name, "machine "+name, 1, api.ErrName)
		expectNoParse(t, name, "machine m\ntrunk "+name+" x x x x", 2, api.ErrName)
		expectLine(t, api.ErrName, "body "+name+" a x x x x x x x x")
		expectLine(t, api.ErrName, "body "+name+" nobody x x x x x x x x")
	}
	long := strings.Repeat("x", 32)
	expectLine(t, api.OK, "body "+long+" a 1m 0m 1kg 1kgm2 0m 0m -1 1")
	for _, name := range []string{"d", "A", "m", "nobody", "1", "trunk", "bb"} {
		for _, line := range []string{"body d %s x x x x x x x x", "shape %s x x x x x x", "spring %s x x a x x x", "spring a x x %s x x x", "spring %s x x %s x x x",
			"tendon %s x x a x x x", "tendon a x x %s x x x", "motor %s x x x x", "foot %s x x x", "foot %s x x x x x"} {
			expectLine(t, api.ErrName, strings.ReplaceAll(line, "%s", name))
		}
	}
	expectLine(t, api.ErrName, "body b d x x x x x x x x")
	expectLine(t, api.ErrTwice, "body b a 1m 0m 1kg 1kgm2 0m 0m -1 1")
	expectLine(t, api.ErrTwice, "body a a 1m 0m 0kg 0kgm2 0m 0m 1 -1")
	expectLine(t, api.ErrForm, "body b a 1m 0m 1kg 1kgm2 0m x -1 1")
	expectLine(t, api.ErrUnit, "body b a 1m 0m 1kg 1kgm2 0m 0m -1 1m")
}

// pattern is a line with quantities, of which each is marked by the number of
// its kind behind %.
type pattern struct {
	line   string
	places []machine.Place
}

// patterns returns a line of each kind, and the places of its quantities.
func patterns() []pattern {
	place := func(kind uint8, index int, fields ...int) []machine.Place {
		var l []machine.Place
		for _, f := range fields {
			l = append(l, machine.Place{Kind: kind, Index: index, Field: f % 10, Item: f / 10})
		}
		return l
	}
	return []pattern{
		{"trunk a %2 %3 %1 %1", place(1, 0, 2, 3, 4, 5)},
		{"body d b %1 %1 %2 %3 %1 %1 %9 %9", place(1, 3, 0, 1, 2, 3, 4, 5, 6, 7)},
		{"shape a %1 %1 %1 %1 %1 %1 %1 %1", place(1, 0, 8, 9, 18, 19, 28, 29, 38, 39)},
		{"spring a %1 %1 b %1 %1 %4", place(2, 0, 0, 1, 2, 3, 4)},
		{"tendon c %1 %1 a %1 %1 %1", place(3, 0, 0, 1, 2, 3, 4)},
		{"motor b %5 %6 %7 %8", place(4, 0, 0, 1, 2, 3)},
		{"foot c %9 %1 %1", place(5, 0, 2, 0, 1)},
		{"foot c %9 %1 %1 %1 %1", place(5, 0, 2, 0, 1, 10, 11)},
	}
}

// quantities returns where the quantities are among the words of a pattern,
// and their kinds.
func (p pattern) quantities() (words []string, at []int, kinds []uint8) {
	words = strings.Fields(p.line)
	for i, w := range words {
		if w[0] == '%' {
			at, kinds = append(at, i), append(kinds, w[1]-'0')
		}
	}
	return words, at, kinds
}

// filled returns the words of a pattern with quantities that are right.
func (p pattern) filled() []string {
	words, at, kinds := p.quantities()
	numbers := []string{"1", "2", "3", "5", "7", "11", "13", "17"}
	if words[0] == "shape" {
		numbers = []string{"0", "0", "9", "0", "8", "8", "1", "7"}
	}
	for i, k := range at {
		words[k] = numbers[i] + firstUnit(kinds[i])
	}
	return words
}

func firstUnit(kind uint8) string {
	for _, u := range measures() {
		if u.kind == kind {
			return u.name
		}
	}
	return ""
}

// around returns the text of a line behind base, or of a trunk alone.
func around(words []string) (text string, line int) {
	if words[0] == "trunk" {
		return lines("machine m", strings.Join(words, " ")), 2
	}
	return lines(append(base(), strings.Join(words, " "))...), len(base()) + 1
}

// P3.3: each quantity of a line goes to its place, has the units of its kind,
// and may have a tolerance.
func TestParseQuantities(t *testing.T) {
	for _, p := range patterns() {
		_, at, kinds := p.quantities()
		text, _ := around(p.filled())
		parsed(t, text)
		for i, k := range at {
			for _, u := range measures() {
				words := p.filled()
				number := strings.TrimSuffix(words[k], firstUnit(kinds[i]))
				factor := num(u.factor)
				quotient, _ := num(number).Div(factor)
				words[k] = quotient.Text() + "+-1/100000" + u.name
				text, line := around(words)
				if u.kind != kinds[i] {
					expectNoParse(t, strings.Join(words, " "), text, line, api.ErrUnit)
					continue
				}
				d := parsed(t, text)
				value, ok := machine.Number(d.Machine, p.places[i])
				if !ok || value.Cmp(num(number)) != 0 {
					t.Error(strings.Join(words, " "), "gives", value.Text())
				}
				want := placeText(p.places[i]) + factor.Mul(num("1/100000")).Text()
				if len(d.Tolerances) != 1 {
					t.Fatal(strings.Join(words, " "), "has so many tolerances:", len(d.Tolerances))
				}
				expect(t, strings.Join(words, " "), placeText(d.Tolerances[0].Place)+d.Tolerances[0].Amount.Text(), want)
			}
		}
	}
}

// P3.3: of several quantities that are wrong the first one counts, and its
// number before its unit; the element is examined last.
func TestParseQuantityErrors(t *testing.T) {
	bad := []struct {
		text string
		want api.Errno
	}{
		{"x", api.ErrForm}, {"1", api.ErrUnit}, {"1?", api.ErrUnit}, {"1+-xm", api.ErrForm}, {"1+--1kg", api.ErrForm}, {"1+-2?", api.ErrUnit}, {"-", api.ErrForm}, {"1/0m", api.ErrForm},
	}
	for _, p := range patterns() {
		_, at, kinds := p.quantities()
		for i, k := range at {
			for _, b := range bad {
				words := p.filled()
				words[k] = b.text
				want := b.want
				if kinds[i] == machine.Plain && b.text == "1" {
					words[k], want = "1m", api.ErrUnit
				}
				text, line := around(words)
				expectNoParse(t, strings.Join(words, " "), text, line, want)
				for _, later := range at[i+1:] {
					for _, c := range []string{"x", "1?"} {
						words[later] = c
						text, line = around(words)
						expectNoParse(t, strings.Join(words, " "), text, line, want)
					}
				}
			}
		}
	}
}

// P3.3: lines whose elements are wrong.
func TestParseElements(t *testing.T) {
	for _, words := range []string{"0kg 1kgm2 0m 0m", "-1kg 1kgm2 0m 0m", "1kg 0kgm2 0m 0m", "1kg -1kgm2 0m 0m"} {
		expectNoParse(t, words, "machine m\ntrunk a "+words, 2, api.ErrArg)
		expectLine(t, api.ErrArg, "body d a 0m 0m "+words+" 0 0")
	}
	expectLine(t, api.ErrArg, "body d a 0m 0m 1kg 1kgm2 0m 0m 1 0.9")
	expectLine(t, api.OK, "body d a 0m 0m 1kg 1kgm2 0m 0m 1 1.0")
	expectLine(t, api.ErrArg, "shape a 0m 0m 0m 1m 1m 0m")
	expectLine(t, api.ErrArg, "shape a 0m 0m 1m 0m 2m 0m")
	for _, tie := range []string{"spring %s 1N/m", "tendon %s 1m"} {
		expectLine(t, api.ErrArg, strings.Replace(tie, "%s", "a 0m 0m a 1m 1m", 1))
		expectLine(t, api.OK, strings.Replace(tie, "%s", "c 0m 0m a 0m 0m", 1))
	}
	expectLine(t, api.ErrArg, "spring a 0m 0m b 0m 0m -1N/m")
	expectLine(t, api.OK, "spring a 0m 0m b 0m 0m 0N/m")
	expectLine(t, api.ErrArg, "tendon a 0m 0m b 0m 0m 0m")
	expectLine(t, api.ErrArg, "tendon a 0m 0m b 0m 0m -1m")
	motor := "motor b 1Nm 1J/N2m2s 1Hz 1J"
	expectLine(t, api.OK, "motor b 0Nm 0J/N2m2s 0Hz 1J")
	for _, words := range []string{"-1Nm 1J/N2m2s 1Hz 1J", "1Nm -1J/N2m2s 1Hz 1J", "1Nm 1J/N2m2s -1Hz 1J", "1Nm 1J/N2m2s 1Hz 0J", "1Nm 1J/N2m2s 1Hz -1J"} {
		expectLine(t, api.ErrArg, "motor b "+words)
		expectLine(t, api.ErrArg, "motor b "+words, motor)
	}
	expectLine(t, api.ErrArg, "motor a 1Nm 1J/N2m2s 1Hz 1J")
	expectLine(t, api.ErrTwice, motor, motor)
	expectLine(t, api.ErrForm, "motor b 1Nm 1J/N2m2s 1Hz x", motor)
	expectLine(t, api.ErrArg, "foot a -1 0m 0m")
	expectLine(t, api.ErrArg, "foot a 1 1m 50cm 100cm 1/2m")
	expectLine(t, api.OK, "foot a 0 1m 50cm 100cm 1/4m")
}

// P3.3: as many elements as are allowed, and one more; its other errors come
// later, those of its quantities and names earlier.
func TestParseLimits(t *testing.T) {
	body := func(name string) string { return "body " + name + " a 0m 0m 1kg 1kgm2 0m 0m -1 1" }
	var bodies []string
	for i := range api.MaxBodies - 3 {
		bodies = append(bodies, body("more"+strconv.Itoa(i)))
	}
	parsed(t, lines(append(base(), bodies...)...))
	expectLine(t, api.ErrLimit, body("d"), bodies...)
	expectLine(t, api.ErrLimit, body("a"), bodies...)
	expectLine(t, api.ErrLimit, "body d a 0m 0m 0kg 1kgm2 0m 0m -1 1", bodies...)
	expectLine(t, api.ErrUnit, "body d a 0m 0m 0m 1kgm2 0m 0m -1 1", bodies...)
	expectLine(t, api.ErrName, body("1"), bodies...)
	motors := append([]string{}, bodies...)
	for _, line := range append(bodies, "body b", "body c") {
		motors = append(motors, "motor "+strings.Fields(line)[1]+" 1Nm 1J/N2m2s 1Hz 1J")
	}
	parsed(t, lines(append(base(), motors...)...))
	expectLine(t, api.ErrTwice, "motor b 1Nm 1J/N2m2s 1Hz 1J", motors...)
	for _, c := range []struct {
		most                    int
		right, argument, broken string
	}{
		{api.MaxSprings, "spring a 0m 0m b 0m 0m 1N/m", "spring a 0m 0m a 0m 0m 1N/m", "spring a 0m 0m b 0m 0m x"},
		{api.MaxTendons, "tendon a 0m 0m b 0m 0m 1m", "tendon a 0m 0m b 0m 0m 0m", "tendon a 0m 0m b 0m 0m x"},
		{api.MaxFeet, "foot a 1 0m 0m", "foot a -1 0m 0m", "foot a 1 0m x"},
	} {
		full := repeated([]string{c.right}, c.most)
		expectLine(t, api.OK, c.right, full[1:]...)
		expectLine(t, api.ErrLimit, c.right, full...)
		expectLine(t, api.ErrLimit, c.argument, full...)
		expectLine(t, api.ErrForm, c.broken, full...)
	}
	corners := "shape c"
	for _, p := range ring(api.MaxShape) {
		corners += " " + p.X.Text() + "m " + p.Z.Text() + "m"
	}
	expectLine(t, api.OK, corners)
	expectLine(t, api.ErrForm, corners+" -0.99m 0m")
	expectLine(t, api.ErrForm, "shape c 0m 0m 1m 0m")
}

// P3.3: errors behind the last line.
func TestParseEnd(t *testing.T) {
	expectNoParse(t, "nothing", "", 1, api.ErrState)
	expectNoParse(t, "an empty line", "\n", 2, api.ErrState)
	expectNoParse(t, "a blank", " ", 2, api.ErrState)
	expectNoParse(t, "a comment", "# c\n\n", 3, api.ErrState)
	expectNoParse(t, "no trunk", "machine m", 2, api.ErrState)
	expectNoParse(t, "no trunk, and a line feed", "machine m\n", 2, api.ErrState)
	expectNoParse(t, "no trunk, and empty lines", "machine m\n\n\n", 4, api.ErrState)
	for _, c := range []struct{ old, loose string }{
		{"trunk a 1kg", "trunk a 1+-1kg"}, {"trunk a 1kg", "trunk a 1+-2kg"}, {"1kgm2 0m 0m -1 1", "1+-1kgm2 0m 0m -1 1"},
		{"-1 1", "-1+-3 1"}, {"-1 1", "-1 1+-3"}, {"shape b 0m", "shape b 0+-2m"},
	} {
		text := strings.Replace(lines(base()...), c.old, c.loose, 1)
		expectNoParse(t, c.loose, text, 6, api.ErrArg)
		expectNoParse(t, c.loose+" and no line feed", strings.TrimSuffix(text, "\n"), 6, api.ErrArg)
		expectNoParse(t, c.loose+" and an empty line", text+"\n", 7, api.ErrArg)
		expectNoParse(t, c.loose+" and an error", text+"x\n", 6, api.ErrForm)
	}
	text := strings.Replace(lines(base()...), "-1 1", "-1+-3 1+-3", 1)
	if d := parsed(t, text); len(d.Tolerances) != 2 {
		t.Error("two tolerances:", designText(d))
	}
}

// P3.3: as long a text as is allowed, and a longer one.
func TestParseLong(t *testing.T) {
	want := parsed(t, lines(base()...))
	text := lines(base()...)
	pad := strings.Repeat("#", api.MaxText-len(text))
	expectParse(t, "MaxText bytes", text+pad, want)
	expectNoParse(t, "MaxText bytes and one more", text+pad+"#", 0, api.ErrLimit)
	expectNoParse(t, "a long text with an error", "x\n"+text+pad, 0, api.ErrLimit)
	expectNoParse(t, "MaxText blanks", strings.Repeat(" ", api.MaxText), 2, api.ErrState)
	expectNoParse(t, "MaxText and one more blanks", strings.Repeat(" ", api.MaxText+1), 0, api.ErrLimit)
	expectNoParse(t, "MaxText line feeds", strings.Repeat("\n", api.MaxText), api.MaxText+1, api.ErrState)
	blanks := strings.Replace(text, "machine ", "machine "+strings.Repeat(" ", api.MaxText-len(text)), 1)
	expectParse(t, "very many blanks", blanks, want)
	digits := strings.Repeat("7", api.MaxNumber)
	parsed(t, strings.Replace(text, "trunk a 1kg", "trunk a "+digits+"kg", 1))
	expectNoParse(t, "a number that is too long", strings.Replace(text, "trunk a 1kg", "trunk a "+digits+"7kg", 1), 2, api.ErrForm)
}
