package perm

import "blackroom/api"

// Print writes p as its cycles, without letters that go to themselves.
func Print(p api.Perm) (string, api.Errno) {
	if err := firstWrong(p); err != api.OK {
		return "", err
	}
	var out []byte
	for _, c := range cycles(p) {
		if len(c) > 1 {
			out = appendCycle(out, c)
		}
	}
	return string(out), api.OK
}

func appendCycle(out []byte, cycle []int) []byte {
	out = append(out, '(')
	for _, i := range cycle {
		out = append(out, byte('A'+i))
	}
	return append(out, ')')
}

// Read is the permutation that text writes as cycles.
func Read(text string) (api.Perm, api.Fault) {
	r := reader{p: Same()}
	for at := range len(text) {
		if err := r.take(text[at]); err != api.OK {
			return api.Perm{}, api.Fault{Err: err, At: at}
		}
	}
	if r.open {
		return api.Perm{}, api.Fault{Err: api.ErrForm, At: len(text)}
	}
	return r.p, api.Fault{}
}

// reader is how far a text has been read: what it says so far, which letters stand in it, whether a bracket is open, and of the cycle in it how long it is, its first and its last letter.
type reader struct {
	p                 api.Perm
	stands            [api.Letters]bool
	open              bool
	long, first, last int
}

// take knows a letter only within brackets: outside of them none can come, one that stands there already no more than another.
func (r *reader) take(c byte) api.Errno {
	switch {
	case !r.open && c == '(':
		r.open, r.long = true, 0
	case r.open && r.long > 0 && c == ')':
		r.open = false
	case r.open && 'A' <= c && c <= 'Z':
		return r.takeLetter(int(c - 'A'))
	default:
		return api.ErrForm
	}
	return api.OK
}

// takeLetter leads each letter back to the first one until the next one comes, so that p is a permutation at any time and a bracket that closes has nothing to do.
func (r *reader) takeLetter(i int) api.Errno {
	if r.stands[i] {
		return api.ErrFit
	}
	r.stands[i] = true
	if r.long == 0 {
		r.first = i
	} else {
		r.p[r.last] = i
	}
	r.p[i] = r.first
	r.last = i
	r.long++
	return api.OK
}
