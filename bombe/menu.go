package bombe

import (
	"blackroom/api"
	"blackroom/perm"
	"blackroom/rotor"
)

// menu is what crib and told say of each letter: at which places it stands in one of them, and which letter stands there in the other one.
type menu [api.Letters][]link

type link struct{ place, other int }

func menuOf(crib, told string) *menu {
	var out menu
	for i := range len(crib) {
		a, b := number(crib[i]), number(told[i])
		out[a] = append(out[a], link{place: i, other: b})
		out[b] = append(out[b], link{place: i, other: a})
	}
	return &out
}

func number(c byte) int { return int(c - 'A') }

// most is the letter that stands most often in the menu: most follows from what is said of it. Of as many it is the first one.
func (n *menu) most() int {
	out := 0
	for c := range n {
		if len(n[c]) > len(n[out]) {
			out = c
		}
	}
	return out
}

// guesses are all partners of the menu's letter that are no contradiction, for a machine with which nothing is wrong and a menu of so many places.
func guesses(m api.Machine, n *menu, places int) []api.Guess {
	keys, letter := unplugged(m, places), n.most()
	var out []api.Guess
	for partner := range api.Letters {
		if pairs, ok := n.follow(keys, letter, partner); ok {
			out = append(out, api.Guess{Letter: letter, Partner: partner, Pairs: pairs})
		}
	}
	return out
}

// unplugged is what the wheels and the reflector alone make of letters at each of the first keys.
func unplugged(m api.Machine, keys int) []api.Perm {
	m.Plugs = perm.Same()
	// It is asked for right machines alone: so there is a machine at work.
	r, _ := rotor.New(m)
	out := make([]api.Perm, keys)
	for i := range keys {
		r.Step()
		out[i] = r.Now()
	}
	return out
}

// nobody is the partner of a letter of which none is said.
const nobody = -1

// board is what is said of plugs so far. A letter comes to said once, when it gets its partner: so all consequences are drawn, and that ends.
type board struct {
	pairs api.Perm
	said  [api.Letters]int // letters that have a partner, in the order in which they got it
	many  int              // of them
}

func emptyBoard() *board {
	b := &board{}
	for c := range b.pairs {
		b.pairs[c] = nobody
	}
	return b
}

// say gives x the partner y; it says false, if x has another one.
func (b *board) say(x, y int) bool {
	if b.pairs[x] == nobody {
		b.pairs[x] = y
		b.said[b.many] = x
		b.many++
	}
	return b.pairs[x] == y
}

// follow draws all consequences of one pair; it says false, if they are a contradiction.
func (n *menu) follow(keys []api.Perm, letter, partner int) (api.Perm, bool) {
	b := emptyBoard()
	b.say(letter, partner)
	for done := 0; done < b.many; done++ {
		x := b.said[done]
		y := b.pairs[x]
		if !b.say(y, x) {
			return api.Perm{}, false
		}
		for _, l := range n[x] {
			if !b.say(l.other, keys[l.place][y]) {
				return api.Perm{}, false
			}
		}
	}
	return b.pairs, true
}
