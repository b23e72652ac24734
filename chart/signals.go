package chart

import (
	"blackroom/api"
	"blackroom/letters"
	"blackroom/rotor"
)

// Double is how a message began of old: its key, twice, as the machine writes it.
func Double(m api.Machine, key string) (string, api.Fault) {
	if err := rotor.Wrong(m); err != api.OK {
		return "", api.Fault{Err: err}
	}
	if f := letters.Check(key); f.Err != api.OK {
		return "", f
	}
	if len(key) != half {
		return "", api.Fault{Err: api.ErrMany}
	}
	return rotor.Write(m, key+key)
}

// Signals is the chart that the beginnings of a day's messages tell, without the machine.
func Signals(l []string) ([3]api.Perm, api.Errno) {
	for _, s := range l {
		if err := signalWrong(s); err != api.OK {
			return [3]api.Perm{}, err
		}
	}
	var out [3]api.Perm
	for i := range out {
		p, err := linked(l, i, i+half)
		if err != api.OK {
			return [3]api.Perm{}, err
		}
		out[i] = p
	}
	return out, api.OK
}

func signalWrong(s string) api.Errno {
	if f := letters.Check(s); f.Err != api.OK {
		return f.Err
	}
	if len(s) < 2*half {
		return api.ErrMany
	}
	return api.OK
}

// linked is the permutation that takes each message's letter at one place to that at another one. What is missing is told only behind all messages: a later one may still not fit.
func linked(l []string, here, there int) (api.Perm, api.Errno) {
	// One more than the letter's number, so that 0 is none.
	var to, from [api.Letters]int
	for _, s := range l {
		a, b := int(s[here]-'A'), int(s[there]-'A')
		if to[a] == 0 && from[b] == 0 {
			to[a], from[b] = b+1, a+1
		}
		if to[a] != b+1 {
			return api.Perm{}, api.ErrFit
		}
	}
	var out api.Perm
	for a, n := range to {
		if n == 0 {
			return api.Perm{}, api.ErrNone
		}
		out[a] = n - 1
	}
	return out, api.OK
}
