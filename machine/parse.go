package machine

import (
	"slices"
	"strings"

	"amble/api"
	"amble/exact"
)

// reader reads the lines of a text into a design.
type reader struct{ Design }

// lineKind is a kind of lines: how many words they have (from the fewest to
// the most by twos), and what reads those behind the first one.
type lineKind struct {
	fewest, most int
	read         func(*reader, []string) api.Errno
}

func lineKinds() map[string]lineKind {
	return map[string]lineKind{
		"machine": {2, 2, (*reader).addMachine},
		"trunk":   {6, 6, (*reader).addTrunk},
		"body":    {11, 11, (*reader).addBody},
		"shape":   {8, 2 + 2*api.MaxShape, (*reader).addShape},
		"spring":  {8, 8, (*reader).addSpring},
		"tendon":  {8, 8, (*reader).addTendon},
		"motor":   {6, 6, (*reader).addMotor},
		"foot":    {5, 7, (*reader).addFoot},
	}
}

// mayHave reports whether a line may have n words.
func (k lineKind) mayHave(n int) bool {
	return n >= k.fewest && n <= k.most && (n-k.fewest)%2 == 0
}

// wordsOf returns the words of a line, none if it is ignored.
func wordsOf(line string) []string {
	line = strings.TrimSuffix(line, "\n")
	words := strings.FieldsFunc(line, func(r rune) bool { return r == ' ' })
	if len(words) > 0 && words[0][0] == '#' {
		return nil
	}
	return words
}

// Parse returns the design of a text, or the number of the line that has an
// error.
func Parse(text string) (d Design, line int, e api.Errno) {
	if len(text) > api.MaxText {
		return Design{}, 0, api.ErrLimit
	}
	var r reader
	kinds := lineKinds()
	for l := range strings.Lines(text) {
		line++
		if e := r.read(kinds, wordsOf(l)); e != api.OK {
			return Design{}, line, e
		}
	}
	if e := r.end(); e != api.OK {
		return Design{}, line + 1, e
	}
	return r.Design, 0, api.OK
}

// read reads the words of a line. The machine has a name as soon as the first
// line has been read.
func (r *reader) read(kinds map[string]lineKind, words []string) api.Errno {
	if len(words) == 0 {
		return api.OK
	}
	kind, ok := kinds[words[0]]
	if !ok || !kind.mayHave(len(words)) {
		return api.ErrForm
	}
	if (words[0] == "machine") != (r.Machine.Name == "") {
		return api.ErrState
	}
	return kind.read(r, words[1:])
}

// end returns the error that shows only behind the last line.
func (r *reader) end() api.Errno {
	if len(r.Machine.Bodies) == 0 {
		return api.ErrState
	}
	slices.SortFunc(r.Tolerances, func(a, b Tolerance) int { return comparePlaces(a.Place, b.Place) })
	return CheckDesign(r.Design)
}

// fill reads quantities into the numbers at places, which are as many.
func (r *reader) fill(places []Place, quantities []string) api.Errno {
	find := finder(&r.Machine)
	for i, p := range places {
		value, amount, e := Quantity(quantities[i], p.quantity())
		if e != api.OK {
			return e
		}
		*find(p) = value
		if amount.Sign() > 0 {
			r.Tolerances = append(r.Tolerances, Tolerance{p, amount})
		}
	}
	return api.OK
}

// finish does what fill does, and returns also the error of the element to
// which the places belong, the last one of its kind.
func (r *reader) finish(places []Place, quantities []string) api.Errno {
	if e := r.fill(places, quantities); e != api.OK {
		return e
	}
	return r.Machine.parts()[places[0].Kind].lastError()
}

func (r *reader) addMachine(words []string) api.Errno {
	if !isName(words[0]) {
		return api.ErrName
	}
	r.Machine.Name = words[0]
	return api.OK
}

func (r *reader) addTrunk(words []string) api.Errno {
	if len(r.Machine.Bodies) > 0 {
		return api.ErrState
	}
	if !isName(words[0]) {
		return api.ErrName
	}
	r.Machine.Bodies = []Body{{Name: words[0], Parent: -1}}
	return r.finish(bodyPlaces(0), words[1:])
}

func (r *reader) addBody(words []string) api.Errno {
	if len(r.Machine.Bodies) == 0 {
		return api.ErrState
	}
	parent, ok := r.Machine.bodyNamed(words[1])
	if !ok || !isName(words[0]) {
		return api.ErrName
	}
	i := len(r.Machine.Bodies)
	r.Machine.Bodies = append(r.Machine.Bodies, Body{Name: words[0], Parent: parent})
	return r.finish(bodyPlaces(i), words[2:])
}

func (r *reader) addShape(words []string) api.Errno {
	i, ok := r.Machine.bodyNamed(words[0])
	if !ok {
		return api.ErrName
	}
	b := &r.Machine.Bodies[i]
	if len(b.Shape) > 0 {
		return api.ErrState
	}
	b.Shape = make([]exact.Point, len(words)/2)
	if e := r.fill(shapePlaces(i, len(b.Shape)), words[1:]); e != api.OK {
		return e
	}
	if !isShape(b.Shape) {
		return api.ErrArg
	}
	return api.OK
}

// ends returns the two bodies of a spring or of a tendon, and its quantities.
func (r *reader) ends(words []string) (a, b int, quantities []string, ok bool) {
	a, okA := r.Machine.bodyNamed(words[0])
	b, okB := r.Machine.bodyNamed(words[3])
	return a, b, slices.Concat(words[1:3], words[4:]), okA && okB
}

func (r *reader) addSpring(words []string) api.Errno {
	a, b, quantities, ok := r.ends(words)
	if !ok {
		return api.ErrName
	}
	i := len(r.Machine.Springs)
	r.Machine.Springs = append(r.Machine.Springs, Spring{A: a, B: b})
	return r.finish(tiePlaces(OfSpring, i), quantities)
}

func (r *reader) addTendon(words []string) api.Errno {
	a, b, quantities, ok := r.ends(words)
	if !ok {
		return api.ErrName
	}
	i := len(r.Machine.Tendons)
	r.Machine.Tendons = append(r.Machine.Tendons, Tendon{A: a, B: b})
	return r.finish(tiePlaces(OfTendon, i), quantities)
}

func (r *reader) addMotor(words []string) api.Errno {
	body, ok := r.Machine.bodyNamed(words[0])
	if !ok {
		return api.ErrName
	}
	i := len(r.Machine.Motors)
	r.Machine.Motors = append(r.Machine.Motors, Motor{Body: body})
	return r.finish(motorPlaces(i), words[1:])
}

func (r *reader) addFoot(words []string) api.Errno {
	body, ok := r.Machine.bodyNamed(words[0])
	if !ok {
		return api.ErrName
	}
	i := len(r.Machine.Feet)
	points := make([]exact.Point, len(words)/2-1)
	r.Machine.Feet = append(r.Machine.Feet, Foot{Body: body, Points: points})
	return r.finish(footPlaces(i, len(points)), words[1:])
}
