package climb

import (
	"math"
	"sync"

	"blackroom/api"
)

// board is where all hands tell what they came to: the best of it stands there.
type board struct {
	sync.Mutex
	api.Climbed
}

// tell leaves of as good ones that of the first try, whoever is the first to tell: so nothing hangs on the hands.
func (b *board) tell(c api.Climbed) {
	b.Lock()
	defer b.Unlock()
	if c.Score > b.Score || c.Score == b.Score && c.Try < b.Try {
		b.Climbed = c
	}
}

// together is the best of so many tries, shared out among so many goroutines as hands says: a hand's tries are hands apart. All of them have ended when it does.
func together(hands, tries int, climbed func(number int) api.Climbed) api.Climbed {
	best := board{Climbed: api.Climbed{Score: math.MinInt}}
	var working sync.WaitGroup
	working.Add(hands)
	for hand := range hands {
		go func() {
			defer working.Done()
			for number := hand; number < tries; number += hands {
				best.tell(climbed(number))
			}
		}()
	}
	working.Wait()
	return best.Climbed
}
