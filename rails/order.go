package rails

import (
	"blackroom/api"
	"blackroom/letters"
)

// Wrong tells what keeps order from being one, from its first number on, and OK if nothing does.
func Wrong(order []int) api.Errno {
	if len(order) > api.MaxText {
		return api.ErrMany
	}
	there := make([]bool, len(order))
	for _, place := range order {
		if place < 0 || place >= len(order) {
			return api.ErrRange
		}
		if there[place] {
			return api.ErrFit
		}
		there[place] = true
	}
	return api.OK
}

// back is the order that undoes order.
func back(order []int) []int {
	out := make([]int, len(order))
	for i, place := range order {
		out[place] = i
	}
	return out
}

// Write puts the letters of text in this order.
func Write(order []int, text string) (string, api.Errno) {
	if err := misfit(order, text); err != api.OK {
		return "", err
	}
	return put(order, text), api.OK
}

// Read is the text of which Write makes this one.
func Read(order []int, text string) (string, api.Errno) {
	if err := misfit(order, text); err != api.OK {
		return "", err
	}
	return put(back(order), text), api.OK
}

func misfit(order []int, text string) api.Errno {
	if err := Wrong(order); err != api.OK {
		return err
	}
	if f := letters.Check(text); f.Err != api.OK {
		return f.Err
	}
	if len(order) != len(text) {
		return api.ErrFit
	}
	return api.OK
}

func put(order []int, text string) string {
	out := make([]byte, len(text))
	for i, place := range order {
		out[i] = text[place]
	}
	return string(out)
}

// Period is after how many times letters that are put in this order stand where they stood.
func Period(order []int) (int, api.Errno) {
	if err := Wrong(order); err != api.OK {
		return 0, err
	}
	gone := make([]bool, len(order))
	period := 1
	for place := range order {
		if gone[place] {
			continue
		}
		long := round(order, place, gone)
		period *= long / divisor(period, long)
		// Told on the spot: what many rounds have in common may be more than an int holds.
		if period > api.MaxPeriod {
			return 0, api.ErrMuch
		}
	}
	return period, api.OK
}

// round is how many places are gone through until the first one comes again; they are marked, so that each round is gone once.
func round(order []int, place int, gone []bool) int {
	long := 0
	for !gone[place] {
		gone[place] = true
		place = order[place]
		long++
	}
	return long
}

// divisor is the greatest one that both have.
func divisor(a, b int) int {
	for b != 0 {
		a, b = b, a%b
	}
	return a
}
