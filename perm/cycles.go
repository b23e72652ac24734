package perm

import "blackroom/api"

// cycles are those of p, each from its first letter of the alphabet on, those with the lesser first letter first: Print and Between lean on that order.
func cycles(p api.Perm) [][]int {
	var out [][]int
	var seen [api.Letters]bool
	for i := range api.Letters {
		if seen[i] {
			continue
		}
		c := cycleFrom(p, i)
		for _, at := range c {
			seen[at] = true
		}
		out = append(out, c)
	}
	return out
}

func cycleFrom(p api.Perm, first int) []int {
	out := []int{first}
	for at := p[first]; at != first; at = p[at] {
		out = append(out, at)
	}
	return out
}

// lengths says of each length how many cycles have it. It is an array, so that those of two permutations can be held against each other.
type lengths [api.Letters + 1]int

func lengthsOf(all [][]int) lengths {
	var out lengths
	for _, c := range all {
		out[len(c)]++
	}
	return out
}

// Type tells how long the cycles of p are, the longest first.
func Type(p api.Perm) ([]int, api.Errno) {
	if err := firstWrong(p); err != api.OK {
		return nil, err
	}
	count := lengthsOf(cycles(p))
	var out []int
	for n := api.Letters; n > 0; n-- {
		for range count[n] {
			out = append(out, n)
		}
	}
	return out, api.OK
}

// Between is the first x with which Conjugate(p, x) is q.
func Between(p, q api.Perm) (api.Perm, api.Errno) {
	if err := firstWrong(p, q); err != api.OK {
		return api.Perm{}, err
	}
	ours, theirs := cycles(p), cycles(q)
	if lengthsOf(ours) != lengthsOf(theirs) {
		return api.Perm{}, api.ErrNone
	}
	return laid(ours, theirs), api.OK
}

// laid lays each cycle of ours on one of theirs. Where one letter goes says where its whole cycle goes, so that a choice is left only at a cycle's first letter; the least that is free there begins the first cycle of that length that is free, and whichever is taken, the cycles left over still match.
func laid(ours, theirs [][]int) api.Perm {
	var free [api.Letters + 1][][]int
	for _, c := range theirs {
		free[len(c)] = append(free[len(c)], c)
	}
	var x api.Perm
	for _, c := range ours {
		n := len(c)
		for k, to := range free[n][0] {
			x[c[k]] = to
		}
		free[n] = free[n][1:]
	}
	return x
}
