package rotor

import (
	"blackroom/api"
	"blackroom/perm"
)

// Wrong tells what keeps a machine from being set up as m says, and OK if nothing does.
func Wrong(m api.Machine) api.Errno {
	if len(m.Wheels) < 1 || len(m.Wheels) > api.MaxWheels {
		return api.ErrMany
	}
	for _, w := range m.Wheels {
		if err := wheelWrong(w); err != api.OK {
			return err
		}
	}
	for _, l := range [2][]int{m.Rings, m.Starts} {
		if len(l) != len(m.Wheels) {
			return api.ErrFit
		}
		if !areLetters(l) {
			return api.ErrRange
		}
	}
	if err := pairsWrong(m.Reflector, false); err != api.OK {
		return err
	}
	return pairsWrong(m.Plugs, true)
}

func wheelWrong(w api.Wheel) api.Errno {
	if err := perm.Wrong(w.Wiring); err != api.OK {
		return err
	}
	if !areLetters(w.Notches) {
		return api.ErrRange
	}
	return api.OK
}

func areLetters(l []int) bool {
	for _, n := range l {
		if !isLetter(n) {
			return false
		}
	}
	return true
}

func isLetter(n int) bool { return 0 <= n && n < api.Letters }

// pairsWrong tells why p does not change letters with each other, two by two. What is its own undoing may leave letters where they are: alone says whether that is right.
func pairsWrong(p api.Perm, alone bool) api.Errno {
	if err := perm.Wrong(p); err != api.OK {
		return err
	}
	for i, to := range p {
		if p[to] != i || to == i && !alone {
			return api.ErrKind
		}
	}
	return api.OK
}
