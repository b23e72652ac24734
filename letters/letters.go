// Package letters makes texts of letters alone: see doc/01-letters.md.
package letters

import "blackroom/api"

// Fold writes text in letters alone, rune by rune.
func Fold(text string) (string, api.Errno) {
	if len(text) > api.MaxText {
		return "", api.ErrMuch
	}
	// No rune is written longer than its own bytes are, so what comes fits MaxText as text does: it need not be measured again.
	out := make([]byte, 0, len(text))
	for _, r := range text {
		out = appendFolded(out, r)
	}
	return string(out), api.OK
}

// appendFolded needs no case for a byte that begins no rune: a range hands it over as U+FFFD, which stands in no row of the table.
func appendFolded(out []byte, r rune) []byte {
	switch {
	case 'A' <= r && r <= 'Z':
		return append(out, byte(r))
	case 'a' <= r && r <= 'z':
		return append(out, byte(r-'a'+'A'))
	}
	return append(out, spelling(r)...)
}

// spelling is the table of L1 without its first two rows. It is written out, since the library's ways to raise and strip letters know more runes than the table does.
func spelling(r rune) string {
	switch r {
	case 'Ä', 'ä', 'Æ', 'æ':
		return "AE"
	case 'Ö', 'ö', 'Ø', 'ø', 'Œ', 'œ':
		return "OE"
	case 'Ü', 'ü':
		return "UE"
	case 'ß':
		return "SS"
	case 'Å', 'å':
		return "AA"
	case 'É', 'é', 'È', 'è', 'Ê', 'ê':
		return "E"
	case 'À', 'à', 'Â', 'â', 'Ą', 'ą':
		return "A"
	case 'Ç', 'ç', 'Ć', 'ć':
		return "C"
	case 'Ł', 'ł':
		return "L"
	case 'Ń', 'ń', 'Ñ', 'ñ':
		return "N"
	case 'Ś', 'ś':
		return "S"
	case 'Ź', 'ź', 'Ż', 'ż':
		return "Z"
	case '.', '?', '!':
		return "X"
	}
	return ""
}

// Check tells whether text is one of letters, and if not, where it first is none.
func Check(text string) api.Fault {
	if len(text) > api.MaxText {
		return api.Fault{Err: api.ErrMuch}
	}
	for i := range len(text) {
		if !isLetter(text[i]) {
			return api.Fault{Err: api.ErrForm, At: i}
		}
	}
	return api.Fault{}
}

func isLetter(c byte) bool { return 'A' <= c && c <= 'Z' }

// Group writes text in groups of long letters, wide groups a line.
func Group(text string, long, wide int) (string, api.Fault) {
	if f := Check(text); f.Err != api.OK {
		return "", f
	}
	if long < 1 || wide < 1 {
		return "", api.Fault{Err: api.ErrRange}
	}
	out := make([]byte, 0, 2*len(text))
	for i := range len(text) {
		if i > 0 && i%long == 0 {
			out = append(out, gapAhead(i/long, wide))
		}
		out = append(out, text[i])
	}
	return string(out), api.Fault{}
}

// gapAhead counts in groups, not in letters: how many letters a line has may be more than an int holds.
func gapAhead(group, wide int) byte {
	if group%wide == 0 {
		return '\n'
	}
	return ' '
}

// Ungroup takes the gaps out of what Group wrote, wherever they stand.
func Ungroup(text string) (string, api.Fault) {
	if len(text) > 2*api.MaxText {
		return "", api.Fault{Err: api.ErrMuch}
	}
	out := make([]byte, 0, len(text))
	for i := range len(text) {
		c := text[i]
		if isLetter(c) {
			out = append(out, c)
		} else if c != ' ' && c != '\n' {
			return "", api.Fault{Err: api.ErrForm, At: i}
		}
	}
	// Measured only here: a wrong byte behind too many letters is told ahead of them.
	if len(out) > api.MaxText {
		return "", api.Fault{Err: api.ErrMuch}
	}
	return string(out), api.Fault{}
}
