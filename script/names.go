package script

import (
	"slices"

	"blackroom/api"
	"blackroom/rotor"
)

// kinds names steps by their kinds. A tableau's step has no name there: it goes by that of its tableau.
var kinds = [...]string{api.StepMove: "move", api.StepRail: "rail", api.StepColumns: "columns", api.StepHill: "hill", api.StepRotor: "rotor"}

// tableaux names tableaux by their kinds. It is made as the program starts, and only read from then on.
var tableaux = nameTableaux()

func nameTableaux() (names [api.Autokey + 1]string) {
	names[api.Vigenere] = "vigenere"
	names[api.Beaufort] = "beaufort"
	names[api.Variant] = "variant"
	names[api.Autokey] = "autokey"
	return names
}

// The names of what is of old: a wheel and a reflector do not say how they are called.
var (
	wheels  = [...]string{"I", "II", "III", "IV", "V"}
	mirrors = [...]string{"B", "C"}
)

// nameOf is with which word a step begins.
func nameOf(s api.Step) string {
	if s.Kind == api.StepTableau {
		return tableaux[s.N]
	}
	return kinds[s.Kind]
}

// named is a step that begins with that word, as far as the word tells. The word is not to be empty: the tables have empty places.
func named(name string) (s api.Step, ok bool) {
	for kind, called := range kinds {
		if called == name {
			return api.Step{Kind: kind}, true
		}
	}
	for n, called := range tableaux {
		if called == name {
			return api.Step{Kind: api.StepTableau, N: n}, true
		}
	}
	return api.Step{}, false
}

// wheelName is how a wheel is called: ErrName, if it is none of old.
func wheelName(w api.Wheel) (string, api.Errno) {
	for _, name := range wheels {
		old, _ := rotor.Known(name)
		if w.Wiring == old.Wiring && slices.Equal(w.Notches, old.Notches) {
			return name, api.OK
		}
	}
	return "", api.ErrName
}

// mirrorName is how a reflector is called: ErrName, if it is none of old.
func mirrorName(p api.Perm) (string, api.Errno) {
	for _, name := range mirrors {
		if old, _ := rotor.Mirror(name); p == old {
			return name, api.OK
		}
	}
	return "", api.ErrName
}
