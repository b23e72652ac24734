package pins

import "blackroom/api"

// atWork is a drum, with which nothing is wrong, while letters go through it. It lives no longer than the call that was handed the drum: so it may look at the caller's own lists.
type atWork struct {
	api.Drum
	at int // the number of the letter that comes next
}

// next is how many bars the next letter pushes; the wheels turn behind it.
func (w *atWork) next() int {
	pushed := 0
	for _, bar := range w.Bars {
		// A bar is pushed once, though both of its lugs may be.
		if w.pushes(bar[0]) || w.pushes(bar[1]) {
			pushed++
		}
	}
	w.at++
	return pushed
}

// pushes says if a lug stands at a wheel whose pin stands out.
func (w *atWork) pushes(lug int) bool {
	if lug == 0 {
		return false
	}
	wheel := w.Wheels[lug-1]
	return wheel[w.at%len(wheel)]
}
