package wear_test

import (
	"slices"
	"strconv"
	"strings"
	"testing"

	"amble/api"
	"amble/exact"
	"amble/hull"
	"amble/wear"
)

// The tests call package wear through what it exports. What they expect is
// written out, or found in another way: phases by looking back over the samples,
// latencies by trying all samples of a grid, fits by linear programs that are
// written a second time and by their proofs.

// num returns the number of a text.
func num(s string) exact.Q {
	q, e := exact.Parse(s)
	if e != api.OK {
		panic("not a number: " + s)
	}
	return q
}

// nums returns the numbers of texts with blanks between them.
func nums(s string) []exact.Q {
	var l []exact.Q
	for word := range strings.FieldsSeq(s) {
		l = append(l, num(word))
	}
	return l
}

// parts returns the parts of a text between commas; none of an empty one.
func parts(s string) []string {
	if s == "" {
		return nil
	}
	return strings.Split(s, ",")
}

// lists returns the lists of numbers of a text like "1 2, 3 4".
func lists(s string) [][]exact.Q {
	var l [][]exact.Q
	for _, part := range parts(s) {
		l = append(l, nums(part))
	}
	return l
}

func sampleOf(l []exact.Q) wear.Sample { return wear.Sample{Load: l[0], Angle: l[1], Speed: l[2]} }

// samples returns those of a text like "500 5 0, 0 5 0": load, angle and speed.
func samples(s string) []wear.Sample {
	var l []wear.Sample
	for _, q := range lists(s) {
		l = append(l, sampleOf(q))
	}
	return l
}

// sides returns the three numbers of a sample.
func sides(s wear.Sample) []exact.Q { return []exact.Q{s.Load, s.Angle, s.Speed} }

// box returns the one of a text like "0 50, -1 1, 2 3": from where to where load,
// angle and speed are.
func box(s string) wear.Box {
	l := lists(s)
	return wear.Box{
		Low:  sampleOf([]exact.Q{l[0][0], l[1][0], l[2][0]}),
		High: sampleOf([]exact.Q{l[0][1], l[1][1], l[2][1]}),
	}
}

// wide is a box in which the samples of the tests are; line returns that part
// of it where the load is from low to high.
const wide = "-1000 1000, -1000 1000, -1000 1000"

func line(low, high string) wear.Box {
	return box(low + " " + high + ", -1000 1000, -1000 1000")
}

// guard returns the one of a text like "Rest Stance 3: 0 50, -1 1, 2 3", or
// "Rest Stance 3: 0 50" for a line.
func guard(s string) wear.Guard {
	head, where, _ := strings.Cut(s, ":")
	words := strings.Fields(head)
	hold, _ := strconv.Atoi(words[2])
	g := wear.Guard{From: phaseOf(words[0]), To: phaseOf(words[1]), Hold: hold}
	if strings.Contains(where, ",") {
		g.Box = box(where)
		return g
	}
	ends := strings.Fields(where)
	g.Box = line(ends[0], ends[1])
	return g
}

var names = [...]string{"Rest", "Stance", "Push", "Swing", "Stop"}

func phaseOf(name string) uint8 { return uint8(slices.Index(names[:], name)) }

// curve returns the one of a text like "0 0, 10 20".
func curve(s string) wear.Curve {
	var c wear.Curve
	for _, l := range lists(s) {
		c = append(c, exact.Point{X: l[0], Z: l[1]})
	}
	return c
}

func limit(s string) wear.Limit {
	l := nums(s)
	return wear.Limit{Moment: l[0], Rate: l[1]}
}

// device returns the chapter's one, but with these guards.
func device(guards ...string) wear.Device {
	d := wear.Device{Step: num("1/100")}
	for _, s := range guards {
		d.Guards = append(d.Guards, guard(s))
	}
	for range names {
		d.Curves = append(d.Curves, curve("0 0, 10 20"))
		d.Limits = append(d.Limits, limit("15 6"))
	}
	return d
}

// leg returns the chapter's device.
func leg() wear.Device {
	return device(
		"Rest Stance 1: 100 2000, -100 100, -100 100",
		"Stance Stop 3: 0 2000, -100 100, -1 1",
		"Stop Rest 1: 0 50, -100 100, -100 100")
}

// changed returns a copy of a device that a function has changed.
func changed(d wear.Device, change func(d *wear.Device)) wear.Device {
	d.Guards, d.Curves, d.Limits = slices.Clone(d.Guards), slices.Clone(d.Curves), slices.Clone(d.Limits)
	for i := range d.Curves {
		d.Curves[i] = slices.Clone(d.Curves[i])
	}
	change(&d)
	return d
}

// record returns the one of a text like "Swing 500 5 0 12": phase, load, angle,
// speed and moment.
func record(s string) wear.Record {
	name, rest, _ := strings.Cut(strings.TrimSpace(s), " ")
	l := nums(rest)
	return wear.Record{Phase: phaseOf(name), Sample: sampleOf(l[:3]), Moment: l[3]}
}

func records(s string) []wear.Record {
	var l []wear.Record
	for _, part := range parts(s) {
		l = append(l, record(part))
	}
	return l
}

// wanted returns records for a fit, of a text like "0 0, 10 20": angles and
// moments.
func wanted(s string) []wear.Record {
	var l []wear.Record
	for _, q := range lists(s) {
		l = append(l, wear.Record{Sample: wear.Sample{Angle: q[0]}, Moment: q[1]})
	}
	return l
}

func numsText(l []exact.Q) string {
	var words []string
	for _, q := range l {
		words = append(words, q.Text())
	}
	return "[" + strings.Join(words, " ") + "]"
}

func sampleText(s wear.Sample) string { return numsText(sides(s)) }

func samplesText(l []wear.Sample) string {
	var text strings.Builder
	for _, s := range l {
		text.WriteString(sampleText(s))
	}
	return text.String()
}

func boxText(b wear.Box) string { return sampleText(b.Low) + sampleText(b.High) }

func boxesText(l []wear.Box) string {
	text := ""
	for _, b := range l {
		text += "{" + boxText(b) + "}"
	}
	return text
}

func curveText(c wear.Curve) string {
	text := "("
	for _, p := range c {
		text += numsText([]exact.Q{p.X, p.Z})
	}
	return text + ")"
}

func guardText(g wear.Guard) string {
	return phaseText(g.From) + phaseText(g.To) + strconv.Itoa(g.Hold) + boxText(g.Box)
}

func deviceText(d wear.Device) string {
	text := d.Step.Text()
	for _, g := range d.Guards {
		text += "|" + guardText(g)
	}
	for _, c := range d.Curves {
		text += "|" + curveText(c)
	}
	for _, l := range d.Limits {
		text += "|" + numsText([]exact.Q{l.Moment, l.Rate})
	}
	return text
}

func phaseText(phase uint8) string {
	if int(phase) < len(names) {
		return names[phase]
	}
	return strconv.Itoa(int(phase))
}

func phasesText(l []uint8) string {
	var words []string
	for _, phase := range l {
		words = append(words, phaseText(phase))
	}
	return strings.Join(words, " ")
}

func recordsText(l []wear.Record) string {
	var text strings.Builder
	for _, r := range l {
		text.WriteString(phaseText(r.Phase) + sampleText(r.Sample) + r.Moment.Text() + ";")
	}
	return text.String()
}

// actions returns phases and moments of a list.
func actions(l []wear.Action) (phases []uint8, moments []exact.Q) {
	for _, a := range l {
		phases, moments = append(phases, a.Phase), append(moments, a.Moment)
	}
	return phases, moments
}

func actionsText(l []wear.Action) string {
	phases, moments := actions(l)
	return phasesText(phases) + numsText(moments)
}

func answerText(a hull.Answer) string {
	return strconv.Itoa(int(a.Kind)) + a.Value.Text() + numsText(a.Point) + numsText(a.Ray) + numsText(a.Weights)
}

func fittedText(f wear.Fitted) string {
	return curveText(f.Curve) + f.Off.Text() + answerText(f.Proof)
}

func pairsText(l [][2]int) string {
	text := ""
	for _, p := range l {
		text += "(" + strconv.Itoa(p[0]) + " " + strconv.Itoa(p[1]) + ")"
	}
	return text
}

// zs returns the moments of a curve.
func zs(c wear.Curve) []exact.Q {
	var l []exact.Q
	for _, p := range c {
		l = append(l, p.Z)
	}
	return l
}

// expect compares what a call gave with what it should give.
func expect(t *testing.T, call, got, want string) {
	t.Helper()
	if got != want {
		t.Errorf("%s: got %s, want %s", call, got, want)
	}
}

func expectError(t *testing.T, call string, got, want api.Errno) {
	t.Helper()
	if got != want {
		t.Errorf("%s: got the error %d, want %d", call, got, want)
	}
}

// expectOK compares what a call gave that should have no error.
func expectOK(t *testing.T, call, got string, e api.Errno, want string) {
	t.Helper()
	expectError(t, call, e, api.OK)
	expect(t, call, got, want)
}

// over returns a / b; b is not 0.
func over(a, b exact.Q) exact.Q {
	q, _ := a.Div(b)
	return q
}

// times returns a list of so many times the same.
func times[T any](n int, x T) []T {
	l := make([]T, n)
	for i := range l {
		l[i] = x
	}
	return l
}

// with returns a copy of a list in which one element is another one.
func with[T any](l []T, i int, x T) []T {
	l = slices.Clone(l)
	l[i] = x
	return l
}

// lies reports whether a sample is in a box.
func lies(s wear.Sample, b wear.Box) bool {
	low, high := sides(b.Low), sides(b.High)
	for i, q := range sides(s) {
		if q.Cmp(low[i]) < 0 || q.Cmp(high[i]) > 0 {
			return false
		}
	}
	return true
}
