package machine

import (
	"slices"
	"strings"

	"amble/api"
)

// printer collects the text of a design.
type printer struct {
	Design
	text strings.Builder
}

// Print returns the text of a design.
func Print(d Design) (string, api.Errno) {
	if e := CheckDesign(d); e != api.OK {
		return "", e
	}
	p := printer{Design: d}
	p.line("machine", d.Machine.Name)
	p.bodies()
	p.shapes()
	p.ties()
	p.motors()
	p.feet()
	return p.text.String(), api.OK
}

func (p *printer) line(words ...string) {
	p.text.WriteString(strings.Join(words, " "))
	p.text.WriteByte('\n')
}

// quantity returns the text of the number at a place.
func (p *printer) quantity(at Place) string {
	number, _ := Number(p.Machine, at)
	text := number.Text()
	if amount := p.amount(at); amount.Sign() > 0 {
		text += "+-" + amount.Text()
	}
	return text + units()[at.quantity()][0].name
}

// behind returns words and behind them the quantities at places.
func (p *printer) behind(words []string, places []Place) []string {
	for _, at := range places {
		words = append(words, p.quantity(at))
	}
	return words
}

func (p *printer) name(body int) string { return p.Machine.Bodies[body].Name }

func (p *printer) bodies() {
	for i, b := range p.Machine.Bodies {
		words := []string{"trunk", b.Name}
		if i > 0 {
			words = []string{"body", b.Name, p.name(b.Parent)}
		}
		p.line(p.behind(words, bodyPlaces(i))...)
	}
}

func (p *printer) shapes() {
	for i, b := range p.Machine.Bodies {
		if len(b.Shape) > 0 {
			p.line(p.behind([]string{"shape", b.Name}, shapePlaces(i, len(b.Shape)))...)
		}
	}
}

func (p *printer) ties() {
	for i, s := range p.Machine.Springs {
		p.tie("spring", s.A, s.B, tiePlaces(OfSpring, i))
	}
	for i, t := range p.Machine.Tendons {
		p.tie("tendon", t.A, t.B, tiePlaces(OfTendon, i))
	}
}

// tie adds the line of a spring or of a tendon between the bodies a and b.
func (p *printer) tie(word string, a, b int, places []Place) {
	words := p.behind([]string{word, p.name(a)}, places)
	p.line(slices.Insert(words, 4, p.name(b))...)
}

func (p *printer) motors() {
	for i, m := range p.Machine.Motors {
		p.line(p.behind([]string{"motor", p.name(m.Body)}, motorPlaces(i))...)
	}
}

func (p *printer) feet() {
	for i, f := range p.Machine.Feet {
		p.line(p.behind([]string{"foot", p.name(f.Body)}, footPlaces(i, len(f.Points)))...)
	}
}
