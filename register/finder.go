package register

// finder is what is known of a shortest register while bits come one by one (the way of Berlekamp and Massey).
//
// A rule is a 1 and, behind it, taps: a bit that a register makes and those ahead of it that its taps tell are 0 together, so a sum of 1 tells that the bit is none of the register's. A rule may be shorter than its register: the taps behind it are 0.
type finder struct {
	long int   // how long the register is
	rule []int // of the register
	// The rule that was too short when the register grew last has a sum of 1 at one bit, and of 0 at those ahead of it. Moved on by so many places it has that 1 at the next bit: a rule that has one there too is mended by it.
	mend  []int
	moved int
}

// newFinder knows of no bits: the register of no taps makes noughts.
func newFinder() finder {
	return finder{rule: []int{1}, mend: []int{1}, moved: 1}
}

// take looks at the last one of bits; those ahead of it have been taken.
func (f *finder) take(bits []int) {
	if sum(f.rule, bits) == 0 {
		f.moved++
		return
	}
	old := f.rule
	f.rule = added(old, f.mend, f.moved)
	// Two registers that make the same bits up to the last one, and there differ, have together at least as many taps as there are bits: so the shortest one has at least len(bits) - f.long now. Where the register is that long already the mended rule fits into it.
	if grown := len(bits) - f.long; grown > f.long {
		f.long, f.mend, f.moved = grown, old, 0
	}
	f.moved++
}

// added is a and, moved on by so many places, b: place by place, modulo 2.
func added(a, b []int, moved int) []int {
	out := make([]int, max(len(a), len(b)+moved))
	copy(out, a)
	for i, x := range b {
		out[i+moved] ^= x
	}
	return out
}

// first is the first taps of all registers that are as short and make the n bits that were taken.
func (f *finder) first(n int) []int {
	rule := f.rule
	// At 2 * f.long - n places f.mend may be added: moved so far it has no sum of 1 at any of the n bits, and still fits into the register; all other taps that do as well come of that. Each time it begins, with a 1, one place later: so these places are made 0 one by one, and what stands ahead of each of them stays.
	for i := range 2*f.long - n {
		at := f.moved + i
		if at < len(rule) && rule[at] == 1 {
			rule = added(rule, f.mend, at)
		}
	}
	taps := make([]int, f.long)
	copy(taps, rule[1:])
	return taps
}
