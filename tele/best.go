package tele

import (
	"slices"
	"sync"
	"sync/atomic"

	"blackroom/api"
)

// Best is where two wheels began, if they are those that made the first two holes: there what changes in the text fits most often what changes at the wheels.
func Best(text []int, a, b api.Pins, hands int) (api.Hit, api.Errno) {
	deltas, err := Delta(text)
	if err != api.OK {
		return api.Hit{}, err
	}
	if err := searchWrong(a, b, hands); err != api.OK {
		return api.Hit{}, err
	}
	s := search{
		places: gathered(deltas, len(a)*len(b)),
		a:      changes(a),
		b:      changes(b),
	}
	// Each number is a beginning of both wheels: of as good ones the one with the least number is told. Each is looked at by one hand alone, which writes what it counts at that number's place: so nothing hangs on the hands.
	counts := make([]int, len(a)*len(b))
	together(hands, len(counts), func(number int) {
		counts[number] = s.fits(number/len(b), number%len(b))
	})
	most := slices.Max(counts)
	first := slices.Index(counts, most)
	return api.Hit{A: first / len(b), B: first % len(b), Count: most}, api.OK
}

func searchWrong(a, b api.Pins, hands int) api.Errno {
	if err := wheelWrong(a); err != api.OK {
		return err
	}
	if err := wheelWrong(b); err != api.OK {
		return err
	}
	if hands < 1 || hands > api.MaxHands {
		return api.ErrRange
	}
	return api.OK
}

// search is what all hands read, and none of them writes.
type search struct {
	places [][2]int // of each place of a round: at how many letters there the first two holes change alike, and at how many they don't
	a, b   []int    // of each pin: 1, if the one behind it is another, else 0
}

// gathered counts letters together that are whole rounds apart: behind a round both wheels stand as they began, so that all of these letters meet the same pins.
func gathered(deltas []int, round int) [][2]int {
	out := make([][2]int, min(len(deltas), round))
	for i, delta := range deltas {
		unlike := (delta>>4 ^ delta>>3) & 1
		out[i%round][unlike]++
	}
	return out
}

func changes(wheel api.Pins) []int {
	out := make([]int, len(wheel))
	for i, pin := range wheel {
		if pin != wheel[next(wheel, i)] {
			out[i] = 1
		}
	}
	return out
}

// fits is how often wheels that begin there fit: of four changes an even number is so, just if those of the two holes are alike where those of the two pins are.
func (s search) fits(beginA, beginB int) int {
	count := 0
	for i, place := range s.places {
		unlike := s.a[(beginA+i)%len(s.a)] ^ s.b[(beginB+i)%len(s.b)]
		count += place[unlike]
	}
	return count
}

// together has each number below many looked at once, by so many goroutines as hands says: whoever is done takes the next number. All of them have ended when it does.
func together(hands, many int, look func(number int)) {
	var taken atomic.Int64
	var working sync.WaitGroup
	working.Add(hands)
	for range hands {
		go func() {
			defer working.Done()
			for {
				number := int(taken.Add(1)) - 1
				if number >= many {
					return
				}
				look(number)
			}
		}()
	}
	working.Wait()
}
