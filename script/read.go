package script

import (
	"strconv"
	"strings"

	"blackroom/api"
	"blackroom/letters"
	"blackroom/perm"
	"blackroom/rotor"
)

// What stands between two steps, and between the names of two wheels.
const (
	bar   = "|"
	comma = ","
)

// Read reads a chain that is written in words.
func Read(text string) ([]api.Step, api.Fault) {
	return atEdge(func() []api.Step {
		if len(text) > api.MaxText {
			throw(api.ErrMuch, 0)
		}
		r := reader{text: text}
		return r.chain()
	})
}

// reader goes over a text, word by word, and throws the first fault that it meets.
type reader struct {
	text string
	next int // where the next word begins; beyond the text's end, if there is none
}

// word is one of a text, and at which byte it begins.
type word struct {
	text string
	at   int
}

func (r *reader) ended() bool { return r.next > len(r.text) }

// ahead is the next word, which stays the next one.
func (r *reader) ahead() word {
	if r.ended() {
		throw(api.ErrForm, len(r.text))
	}
	text, _, _ := strings.Cut(r.text[r.next:], " ")
	if text == "" {
		throw(api.ErrForm, r.next)
	}
	return word{text: text, at: r.next}
}

// word goes past the next word, and the space behind it.
func (r *reader) word() word {
	w := r.ahead()
	r.next += len(w.text) + 1
	return w
}

func (r *reader) chain() []api.Step {
	out := []api.Step{r.step(0)}
	for !r.ended() {
		if w := r.word(); w.text != bar {
			throw(api.ErrForm, w.at)
		}
		out = append(out, r.step(len(out)))
	}
	return out
}

// step is the one at that place of the chain. A word that is no name is told ahead of a step too many: both begin at the same byte, and the document names them so.
func (r *reader) step(place int) api.Step {
	name := r.word()
	s, ok := named(name.text)
	if !ok {
		throw(api.ErrName, name.at)
	}
	if place >= api.MaxSteps {
		throw(api.ErrMany, name.at)
	}
	switch s.Kind {
	case api.StepMove:
		s.N = r.word().number(0, api.Letters-1)
	case api.StepRail:
		s.N = r.word().number(1, api.MaxRails)
	case api.StepTableau, api.StepColumns:
		s.Key = r.word().key()
	case api.StepHill:
		s.Matrix = r.matrix()
	case api.StepRotor:
		s.Machine = r.machine()
	}
	return s
}

func (r *reader) matrix() [][]int {
	m := make([][]int, r.word().number(1, api.MaxHill))
	for y := range m {
		m[y] = make([]int, len(m))
		for x := range m[y] {
			m[y][x] = r.word().number(0, api.Letters-1)
		}
	}
	return m
}

func (r *reader) machine() api.Machine {
	var m api.Machine
	m.Wheels = r.word().wheels()
	m.Reflector = r.word().mirror()
	m.Rings = r.word().settings(len(m.Wheels))
	m.Starts = r.word().settings(len(m.Wheels))
	m.Plugs = perm.Same()
	if !r.ended() && r.ahead().text != bar {
		m.Plugs = r.word().plugs()
	}
	return m
}

func (w word) number(low, high int) int {
	if !isNumber(w.text) {
		throw(api.ErrForm, w.at)
	}
	n, err := strconv.Atoi(w.text)
	if err != nil { // it is greater than any int
		throw(api.ErrRange, w.at)
	}
	pass(outside(n, low, high), w.at)
	return n
}

// isNumber holds a word, which is not empty, against how a number is written.
func isNumber(text string) bool {
	for i := range len(text) {
		if text[i] < '0' || text[i] > '9' {
			return false
		}
	}
	return text[0] != '0' || text == "0"
}

// key copies the letters: a piece of the text would keep hold of what was handed in.
func (w word) key() string {
	pass(wrongKey(w.text), w.at)
	return strings.Clone(w.text)
}

// settings are a machine's Rings, or its Starts.
func (w word) settings(many int) []int {
	pass(letters.Check(w.text).Err, w.at)
	if len(w.text) != many {
		throw(api.ErrFit, w.at)
	}
	out := make([]int, many)
	for i := range out {
		out[i] = number(w.text[i])
	}
	return out
}

func (w word) wheels() []api.Wheel {
	var out []api.Wheel
	at := w.at
	for name := range strings.SplitSeq(w.text, comma) {
		wheel, err := rotor.Known(name)
		pass(err, at)
		out = append(out, wheel)
		at += len(name) + len(comma)
	}
	if len(out) > api.MaxWheels {
		throw(api.ErrMany, w.at)
	}
	return out
}

func (w word) mirror() api.Perm {
	p, err := rotor.Mirror(w.text)
	pass(err, w.at)
	return p
}

// plugs may be any permutation that is its own undoing.
func (w word) plugs() api.Perm {
	p, f := perm.Read(w.text)
	pass(f.Err, w.at+f.At)
	if twice, _ := perm.Then(p, p); twice != perm.Same() {
		throw(api.ErrKind, w.at)
	}
	return p
}
