package hill

import (
	"strings"

	"blackroom/api"
	"blackroom/letters"
)

// Write multiplies text, piece by piece, by m.
func Write(m [][]int, text string) (string, api.Fault) {
	if err := Wrong(m); err != api.OK {
		return "", api.Fault{Err: err}
	}
	if f := letters.Check(text); f.Err != api.OK {
		return "", f
	}
	full := filled(text, len(m))
	if len(full) > api.MaxText {
		return "", api.Fault{Err: api.ErrMuch}
	}
	out := make([]byte, 0, len(full))
	for at := 0; at < len(full); at += len(m) {
		for _, row := range m {
			sum := times(row, func(k int) int { return number(full[at+k]) })
			out = append(out, letter(sum))
		}
	}
	return string(out), api.Fault{}
}

// filled is text with as many X behind it as make n divide its length.
func filled(text string, n int) string {
	short := (n - len(text)%n) % n
	return text + strings.Repeat("X", short)
}

func number(c byte) int { return int(c - 'A') }

func letter(n int) byte { return byte('A' + n) }

// Find is the matrix of n rows with which Write makes told of text, as far as their first n pieces tell.
func Find(n int, text, told string) ([][]int, api.Errno) {
	if n < 1 || n > api.MaxHill {
		return nil, api.ErrMany
	}
	for _, s := range []string{text, told} {
		if f := letters.Check(s); f.Err != api.OK {
			return nil, f.Err
		}
	}
	if min(len(text), len(told)) < n*n {
		return nil, api.ErrMany
	}
	back, err := Inverse(columns(n, text))
	if err != api.OK {
		return nil, err
	}
	return Product(columns(n, told), back)
}

// columns has the first n pieces of text, one beside the other.
func columns(n int, text string) [][]int {
	return made(n, func(y, x int) int { return number(text[n*x+y]) })
}
