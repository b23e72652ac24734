package rotor

import (
	"reflect"
	"strings"
	"testing"

	"blackroom/api"
	"blackroom/perm"
)

const alphabet = "ABCDEFGHIJKLMNOPQRSTUVWXYZ"

// The table of M1, a row each.
const (
	wheelRows  = "I EKMFLGDQVZNTOWYHXUSPAIBRCJ Q\nII AJDKSIRUXBLHWTMCQGZNPYFVOE E\nIII BDFHJLCPRTXVZNYEIWGAKMUSQO V\nIV ESOVPZJAYQUIRHXLNFTGKDCMWB J\nV VZBRGITYUPSDNHLXAWMJQOFECK Z"
	mirrorRows = "B YRUHQSLDPXNGOKMIEBFZCWVJAT\nC FVPJIAOYEDRZXWGCTKUQSBNMHL"
)

// told looks each letter up in the alphabet.
func told(letters string) api.Perm {
	var p api.Perm
	for i := range p {
		p[i] = strings.IndexByte(alphabet, letters[i])
	}
	return p
}

func rows(table string) (out [][]string) {
	for _, row := range strings.Split(table, "\n") {
		out = append(out, strings.Fields(row))
	}
	return out
}

func wantKnown(t *testing.T, name string, want api.Wheel, wantErr api.Errno) {
	t.Helper()
	if got, err := Known(name); !reflect.DeepEqual(got, want) || err != wantErr {
		t.Errorf("Known(%.40q) = %v, %v; want %v, %v", name, got, err, want, wantErr)
	}
}

func wantMirror(t *testing.T, name string, want api.Perm, wantErr api.Errno) {
	t.Helper()
	if got, err := Mirror(name); got != want || err != wantErr {
		t.Errorf("Mirror(%.40q) = %v, %v; want %v, %v", name, got, err, want, wantErr)
	}
}

// noNames are names of nothing.
var noNames = []string{"", " ", "i", "ii", "v", "b", "c", "A", "D", "X", "VI", "VII", "VIII", "IIII", "IIV", "VV", "BB", "BC", "I ", " I", "I\n", "I\x00", "B ", " C", "1", "5", "Ⅰ", "Ⅴ", "Beta", "Gamma", "\xff", strings.Repeat("I", api.MaxText+1)}

func TestM1Known(t *testing.T) {
	for _, row := range rows(wheelRows) {
		wantKnown(t, row[0], api.Wheel{Wiring: told(row[1]), Notches: []int{strings.Index(alphabet, row[2])}}, api.OK)
	}
	for _, row := range rows(mirrorRows) {
		wantKnown(t, row[0], api.Wheel{}, api.ErrName)
	}
	for _, name := range noNames {
		wantKnown(t, name, api.Wheel{}, api.ErrName)
	}
}

func TestM1Mirror(t *testing.T) {
	for _, row := range rows(mirrorRows) {
		wantMirror(t, row[0], told(row[1]), api.OK)
	}
	for _, row := range rows(wheelRows) {
		wantMirror(t, row[0], api.Perm{}, api.ErrName)
	}
	for _, name := range noNames {
		wantMirror(t, name, api.Perm{}, api.ErrName)
	}
}

// A slip in a row would most likely name a letter twice.
func TestM1AreRight(t *testing.T) {
	for _, row := range rows(wheelRows) {
		w, _ := Known(row[0])
		if err := perm.Wrong(w.Wiring); err != api.OK {
			t.Errorf("the wheel %s is wrong: %v", row[0], err)
		}
	}
	for _, row := range rows(mirrorRows) {
		p, _ := Mirror(row[0])
		if long, err := perm.Type(p); err != api.OK || !reflect.DeepEqual(long, []int{2, 2, 2, 2, 2, 2, 2, 2, 2, 2, 2, 2, 2}) {
			t.Errorf("the reflector %s has cycles of %v, %v", row[0], long, err)
		}
	}
}

func TestE2KnownIsNewEachTime(t *testing.T) {
	for _, row := range rows(wheelRows) {
		w, _ := Known(row[0])
		w.Wiring[3] = 99
		spoil(w.Notches)
		wantKnown(t, row[0], api.Wheel{Wiring: told(row[1]), Notches: []int{strings.Index(alphabet, row[2])}}, api.OK)
	}
}
