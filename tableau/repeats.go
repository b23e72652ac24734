package tableau

import (
	"slices"

	"blackroom/api"
	"blackroom/letters"
)

// Repeats tells which pieces of long letters come again in text, and how far behind.
func Repeats(text string, long int) ([]api.Repeat, api.Fault) {
	if f := letters.Check(text); f.Err != api.OK {
		return nil, f
	}
	if len(text) > api.MaxScan {
		return nil, api.Fault{Err: api.ErrMuch}
	}
	if long < 1 {
		return nil, api.Fault{Err: api.ErrRange}
	}
	var out []api.Repeat
	// From the end on, so that of each piece the place that was met last is the next one behind.
	next := map[string]int{}
	for at := len(text) - long; at >= 0; at-- {
		piece := text[at : at+long]
		if behind, ok := next[piece]; ok {
			out = append(out, api.Repeat{At: at, Far: behind - at})
		}
		next[piece] = at
	}
	slices.Reverse(out)
	return out, api.Fault{}
}

// Common is the greatest number that divides how far all of them are: a key's length divides it, if they come again by the key's doing.
func Common(l []api.Repeat) (int, api.Errno) {
	common := 0
	for _, r := range l {
		if r.Far < 1 {
			return 0, api.ErrRange
		}
		common = divisor(common, r.Far)
	}
	if len(l) == 0 {
		return 0, api.ErrNone
	}
	return common, api.OK
}

// divisor is the greatest one that both have; each number divides 0.
func divisor(a, b int) int {
	for b != 0 {
		a, b = b, a%b
	}
	return a
}
