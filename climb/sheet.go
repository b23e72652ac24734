package climb

import (
	"math"

	"blackroom/api"
)

// sheet is what keys are held against. All hands read it, and none of them writes there.
type sheet struct {
	pairs  [][2]int // by their numbers: each two letters of the text, one behind the other
	points []int
}

func sheetOf(text string, t []int) sheet {
	s := sheet{points: t}
	for i := 1; i < len(text); i++ {
		s.pairs = append(s.pairs, [2]int{int(text[i-1] - 'A'), int(text[i] - 'A')})
	}
	return s
}

func (s sheet) score(key api.Perm) int {
	sum := 0
	for _, pair := range s.pairs {
		sum += s.points[api.Letters*key[pair[0]]+key[pair[1]]]
	}
	return sum
}

// top is where a climb from key ends. It does end: each step scores more, and there are only so many keys.
func (s sheet) top(key api.Perm) (api.Perm, int) {
	score := s.score(key)
	for {
		next, most := s.step(key)
		if most <= score {
			return key, score
		}
		key, score = next, most
	}
}

// step is the best of all keys that are two letters away from key. Of as good ones the first one stays: so b is gone through outside, and a inside.
func (s sheet) step(key api.Perm) (api.Perm, int) {
	best, most := key, math.MinInt
	for b := 1; b < api.Letters; b++ {
		for a := range b {
			other := key
			other[a], other[b] = key[b], key[a]
			if score := s.score(other); score > most {
				best, most = other, score
			}
		}
	}
	return best, most
}
