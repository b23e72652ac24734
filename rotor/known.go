package rotor

import "blackroom/api"

// Known is a wheel of old.
func Known(name string) (api.Wheel, api.Errno) {
	switch name {
	case "I":
		return wheelOf("EKMFLGDQVZNTOWYHXUSPAIBRCJ", 'Q'), api.OK
	case "II":
		return wheelOf("AJDKSIRUXBLHWTMCQGZNPYFVOE", 'E'), api.OK
	case "III":
		return wheelOf("BDFHJLCPRTXVZNYEIWGAKMUSQO", 'V'), api.OK
	case "IV":
		return wheelOf("ESOVPZJAYQUIRHXLNFTGKDCMWB", 'J'), api.OK
	case "V":
		return wheelOf("VZBRGITYUPSDNHLXAWMJQOFECK", 'Z'), api.OK
	}
	return api.Wheel{}, api.ErrName
}

// Mirror is a reflector of old.
func Mirror(name string) (api.Perm, api.Errno) {
	switch name {
	case "B":
		return permOf("YRUHQSLDPXNGOKMIEBFZCWVJAT"), api.OK
	case "C":
		return permOf("FVPJIAOYEDRZXWGCTKUQSBNMHL"), api.OK
	}
	return api.Perm{}, api.ErrName
}

func wheelOf(row string, notch byte) api.Wheel {
	return api.Wheel{Wiring: permOf(row), Notches: []int{number(notch)}}
}

// permOf reads a row of the table: what A to Z go to.
func permOf(row string) api.Perm {
	var p api.Perm
	for i := range p {
		p[i] = number(row[i])
	}
	return p
}

func number(c byte) int { return int(c - 'A') }

func letter(n int) byte { return 'A' + byte(n) }
