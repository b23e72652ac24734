package climb

import (
	"bytes"
	"math"
	"math/big"
	"math/rand"
	"runtime"
	"slices"
	"strings"
	"sync"
	"testing"
	"time"

	"blackroom/api"
	"blackroom/perm"
)

func wantClimb(t *testing.T, text string, points []int, seed uint64, tries, hands int, want api.Climbed, wantErr api.Errno) {
	t.Helper()
	if got, err := Climb(text, points, seed, tries, hands); got != want || err != wantErr {
		t.Errorf("Climb(%d letters %.40q, %d numbers, %d, %d, %d) = %v, %d; want %v, %d", len(text), text, len(points), seed, tries, hands, got, err, want, wantErr)
	}
}

// beginOnPaper reckons with numbers that do not wrap round, and takes what is above 2^64 away.
func beginOnPaper(seed uint64, try int) api.Perm {
	whole := new(big.Int).Lsh(big.NewInt(1), 64)
	s := new(big.Int).SetUint64(seed)
	s.Mod(s.Add(s, big.NewInt(int64(try))), whole)
	out := keyOf(alphabet)
	for i := 25; i >= 1; i-- {
		s.Mul(s, big.NewInt(6364136223846793005))
		s.Mod(s.Add(s, big.NewInt(1442695040888963407)), whole)
		k := new(big.Int).Div(s, big.NewInt(1<<33))
		at := k.Mod(k, big.NewInt(int64(i)+1)).Int64()
		was := out[i]
		out[i] = out[at]
		out[at] = was
	}
	return out
}

// neighbour is a key, by which two letters it is another one, and what it scores.
type neighbour struct {
	key         api.Perm
	a, b, score int
}

// tryOnPaper lays all neighbours out, and sorts them as the chapter says.
func tryOnPaper(text string, points []int, seed uint64, try int) api.Climbed {
	key := beginOnPaper(seed, try)
	for {
		var all []neighbour
		for a := range 26 {
			for b := a + 1; b < 26; b++ {
				n := neighbour{key, a, b, 0}
				n.key[a], n.key[b] = key[b], key[a]
				n.score = scoreOnPaper(text, points, n.key)
				all = append(all, n)
			}
		}
		slices.SortFunc(all, func(x, y neighbour) int {
			return slices.Compare([]int{-x.score, x.b, x.a}, []int{-y.score, y.b, y.a})
		})
		score := scoreOnPaper(text, points, key)
		if all[0].score <= score {
			return api.Climbed{Key: key, Score: score, Try: try}
		}
		key = all[0].key
	}
}

// climbsOnPaper are the best of one try, of two, and so on.
func climbsOnPaper(text string, points []int, seed uint64, tries int) []api.Climbed {
	out := []api.Climbed{tryOnPaper(text, points, seed, 0)}
	for try := 1; try < tries; try++ {
		best, now := out[try-1], tryOnPaper(text, points, seed, try)
		if now.Score > best.Score {
			best = now
		}
		out = append(out, best)
	}
	return out
}

func notNumbers() []int {
	return []int{0, -1, -16, 17, 18, 1 << 32, 1<<32 + 1, math.MinInt, math.MinInt + 1, math.MaxInt}
}

// Where there is nothing to climb for a try ends where it began.
func TestJ2Begins(t *testing.T) {
	for _, c := range []struct {
		seed uint64
		key  string
	}{
		{0, "IZSGJVNDLWCAHUQPRMKEOTFBYX"},
		{1, "RFTOPGXNUASVBEHZLYJKIWCMDQ"},
		{2, "RSVLKOBGNEQXPTUYDJMZCFWAHI"},
		{5, "HGPAUWYCDNQREIJLBSZVFTMKXO"},
		{1 << 33, "YUCOTMQAVXHFDWIEBPRNZKLGJS"},
		{1 << 63, "SVMHFARKLODQUGBPTECWNYIZXJ"},
		{math.MaxUint64, "RYPTAJGMHBVOLWZDXEKFUQINSC"},
		{math.MaxUint64 - 1, "DJSLXUIBRGAWNEPHYQVTFZMCOK"},
		{12345678901234567890, "GOIVMAYWKPSCRUFETLHNQJBXDZ"},
	} {
		want := api.Climbed{Key: keyOf(c.key)}
		for _, text := range []string{"", "A", "Z", "AB", "THEQUICKBROWNFOX"} {
			wantClimb(t, text, make([]int, 676), c.seed, 1, 1, want, api.OK)
		}
		wantClimb(t, "", slices.Repeat([]int{-1000}, 676), c.seed, 16, 16, want, api.OK)
	}
}

func TestJ2BeginsAnywhere(t *testing.T) {
	r := rand.New(rand.NewSource(157))
	for range 1000 {
		seed := r.Uint64()
		wantClimb(t, "", make([]int, 676), seed, 1, 1, api.Climbed{Key: beginOnPaper(seed, 0)}, api.OK)
	}
}

// At seed 0 A goes to I and B to Z; L goes to A, H to D, T to E and Z to X.
func TestJ2StepsByHand(t *testing.T) {
	for _, c := range []struct {
		why   string
		worth map[string]int
		key   string
		score int
	}{
		{"nothing else is better", map[string]int{"IZ": 5, "IA": 5, "EZ": 4}, "IZSGJVNDLWCAHUQPRMKEOTFBYX", 5},
		{"all else is worse", map[string]int{"IZ": 1}, "IZSGJVNDLWCAHUQPRMKEOTFBYX", 1},
		{"B changes for L", map[string]int{"IA": 10}, "IASGJVNDLWCZHUQPRMKEOTFBYX", 10},
		{"A changes for T", map[string]int{"EZ": 10}, "EZSGJVNDLWCAHUQPRMKIOTFBYX", 10},
		{"A changes for B", map[string]int{"ZI": 10}, "ZISGJVNDLWCAHUQPRMKEOTFBYX", 10},
		{"B changes for Z", map[string]int{"IX": 10}, "IXSGJVNDLWCAHUQPRMKEOTFBYZ", 10},
		{"the best one", map[string]int{"IA": 10, "IX": 11, "EZ": 9}, "IXSGJVNDLWCAHUQPRMKEOTFBYZ", 11},
		{"the least b: 7, not 11", map[string]int{"IA": 10, "ID": 10}, "IDSGJVNZLWCAHUQPRMKEOTFBYX", 10},
		{"the least b ahead of the least a: 1 and 7, not 0 and 19", map[string]int{"EZ": 10, "ID": 10}, "IDSGJVNZLWCAHUQPRMKEOTFBYX", 10},
		{"the least a of those with the same b: 0 and 7, not 1 and 7", map[string]int{"DZ": 10, "ID": 10}, "DZSGJVNILWCAHUQPRMKEOTFBYX", 10},
		{"two steps: B for H, then A for T", map[string]int{"ID": 1, "ED": 2}, "EDSGJVNZLWCAHUQPRMKIOTFBYX", 2},
		{"A for T first, since that is better; then B for L, then A for H", map[string]int{"ID": 1, "EZ": 2, "EA": 3, "DA": 9}, "DASGJVNELWCZHUQPRMKIOTFBYX", 9},
		{"two steps away, and no step there is better", map[string]int{"ED": 100}, "IZSGJVNDLWCAHUQPRMKEOTFBYX", 0},
		{"away from what is below nought: the first two that change it are A and B", map[string]int{"IZ": -3}, "ZISGJVNDLWCAHUQPRMKEOTFBYX", 0},
		{"the first two that change it are A and C", map[string]int{"IZ": -3, "ZI": -3}, "SZIGJVNDLWCAHUQPRMKEOTFBYX", 0},
		{"less below nought", map[string]int{"IZ": -3, "ZI": -4}, "SZIGJVNDLWCAHUQPRMKEOTFBYX", 0},
	} {
		want := api.Climbed{Key: keyOf(c.key), Score: c.score}
		for _, hands := range []int{1, 2, 16} {
			if got, err := Climb("AB", table(c.worth), 0, 1, hands); got != want || err != api.OK {
				t.Errorf("%s: %v, %d; want %v", c.why, got, err, want)
			}
		}
	}
}

// A key is told though all of them score below nought.
func TestJ2AllBelowNought(t *testing.T) {
	points := slices.Repeat([]int{-1000}, 676)
	text := strings.Repeat("AB", 128)
	for tries := 1; tries <= api.MaxTries; tries++ {
		wantClimb(t, text, points, 7, tries, 3, api.Climbed{Key: beginOnPaper(7, 0), Score: -255000}, api.OK)
	}
}

// Of tries that come as far the first one is told, however many hands there are.
func TestJ2OfAsGoodTriesTheFirst(t *testing.T) {
	flat := slices.Repeat([]int{3}, 676)
	for hands := 1; hands <= api.MaxHands; hands++ {
		for range 20 {
			wantClimb(t, "ABC", flat, 40, api.MaxTries, hands, api.Climbed{Key: beginOnPaper(40, 0), Score: 6}, api.OK)
		}
	}
}

func TestJ2ClimbsOfAny(t *testing.T) {
	r := rand.New(rand.NewSource(158))
	for range 60 {
		text, seed := someText(r, 1+r.Intn(26), r.Intn(40)), r.Uint64()
		points := somePoints(r, []int{1, 1, 2, 30, 1000}[r.Intn(5)])
		tries := 1 + r.Intn(api.MaxTries)
		for i, want := range climbsOnPaper(text, points, seed, tries) {
			wantClimb(t, text, points, seed, i+1, 1+r.Intn(api.MaxHands), want, api.OK)
		}
	}
}

// Few pairs are worth something: many steps, many keys and many tries are as good as others.
func TestJ2ClimbsWithManyAsGood(t *testing.T) {
	r := rand.New(rand.NewSource(159))
	for range 100 {
		points := make([]int, 676)
		for range 1 + r.Intn(40) {
			points[r.Intn(676)] = 1 + r.Intn(2)
		}
		text, seed := someText(r, 2+r.Intn(5), 2+r.Intn(8)), r.Uint64()
		for i, want := range climbsOnPaper(text, points, seed, 6) {
			wantClimb(t, text, points, seed, i+1, 1+r.Intn(api.MaxHands), want, api.OK)
		}
	}
}

func TestJ2EachNumberOfTriesAndHands(t *testing.T) {
	r := rand.New(rand.NewSource(160))
	text, points, seed := someText(r, 20, 30), somePoints(r, 5), uint64(math.MaxUint64-3)
	for i, want := range climbsOnPaper(text, points, seed, api.MaxTries) {
		for hands := 1; hands <= api.MaxHands; hands++ {
			wantClimb(t, text, points, seed, i+1, hands, want, api.OK)
		}
	}
}

func TestJ2ClimbOfTheLongest(t *testing.T) {
	r := rand.New(rand.NewSource(161))
	text, points := someText(r, 26, api.MaxClimb), somePoints(r, api.MaxPoint)
	wants := climbsOnPaper(text, points, 77, 3)
	wantClimb(t, text, points, 77, 3, 2, wants[2], api.OK)
	wantNeither(t, text+"A", points, api.ErrMuch)
}

// The seed and the try are added modulo 2^64: a later try of one seed is an earlier one of another.
func TestJ2TriesAreSeeds(t *testing.T) {
	r := rand.New(rand.NewSource(162))
	text, points := someText(r, 26, 50), somePoints(r, 100)
	for _, seed := range []uint64{0, 1, math.MaxUint64, math.MaxUint64 - 1, math.MaxUint64 - 14, 1<<63 - 1, r.Uint64()} {
		var best api.Climbed
		for try := range api.MaxTries {
			one, err := Climb(text, points, seed+uint64(try), 1, 1)
			if err != api.OK || one.Try != 0 {
				t.Fatalf("one try of %d: %v, %d", seed+uint64(try), one, err)
			}
			if one.Try = try; try == 0 || one.Score > best.Score {
				best = one
			}
			wantClimb(t, text, points, seed, try+1, 4, best, api.OK)
		}
	}
}

// Nobody that changes two letters of what is told scores more, and it scores what is told.
func TestJ2NoStepIsLeft(t *testing.T) {
	r := rand.New(rand.NewSource(163))
	for range 30 {
		text, points := someText(r, 26, r.Intn(api.MaxClimb+1)), somePoints(r, api.MaxPoint)
		got, err := Climb(text, points, r.Uint64(), 2, 2)
		if err != api.OK || perm.Wrong(got.Key) != api.OK || got.Try < 0 || got.Try > 1 {
			t.Fatalf("Climb of %q: %v, %d", text, got, err)
		}
		wantScore(t, text, points, got.Key, got.Score, api.OK)
		for a := range 26 {
			for b := range a {
				other := got.Key
				other[a], other[b] = other[b], other[a]
				if score, _ := Score(text, points, other); score > got.Score {
					t.Errorf("Climb of %q stays at %d, though %d and %d make %d", text, got.Score, a, b, score)
				}
			}
		}
	}
}

func TestJ2WrongTriesOrHands(t *testing.T) {
	r := rand.New(rand.NewSource(164))
	for _, text := range []string{"", "A", "AB", someText(r, 26, api.MaxClimb)} {
		points := somePoints(r, api.MaxPoint)
		for _, n := range notNumbers() {
			wantClimb(t, text, points, 3, n, 1, api.Climbed{}, api.ErrRange)
			wantClimb(t, text, points, 3, 1, n, api.Climbed{}, api.ErrRange)
			wantClimb(t, text, points, 3, n, n, api.Climbed{}, api.ErrRange)
			wantClimb(t, text, points, 3, api.MaxTries, n, api.Climbed{}, api.ErrRange)
			wantClimb(t, text, points, 3, n, api.MaxHands, api.Climbed{}, api.ErrRange)
		}
		// What is wrong with the text and with the table is told ahead of it.
		wantClimb(t, text+"a", points, 3, 0, 0, api.Climbed{}, api.ErrForm)
		wantClimb(t, strings.Repeat("A", api.MaxClimb+1), points, 3, 0, 0, api.Climbed{}, api.ErrMuch)
		wantClimb(t, text, points[1:], 3, 0, 0, api.Climbed{}, api.ErrFit)
	}
}

// What is told stands there at last, in whatever order it is told.
func TestJ2BoardInAnyOrder(t *testing.T) {
	r := rand.New(rand.NewSource(165))
	for range 300 {
		var told []api.Climbed
		for try := range 1 + r.Intn(api.MaxTries) {
			told = append(told, api.Climbed{Key: someKey(r), Score: r.Intn(4) - 2, Try: try})
		}
		want := slices.MaxFunc(told, func(x, y api.Climbed) int { return x.Score - y.Score }) // of as good ones the first
		b := board{Climbed: api.Climbed{Score: math.MinInt}}
		for _, i := range r.Perm(len(told)) {
			b.tell(told[i])
		}
		if b.Climbed != want {
			t.Errorf("of %v stands there %v", told, b.Climbed)
		}
	}
}

// Each try is tried once, however many hands there are, and though there be fewer tries than hands.
func TestJ2EachTryOnce(t *testing.T) {
	for hands := 1; hands <= api.MaxHands; hands++ {
		for tries := 1; tries <= api.MaxTries; tries++ {
			seen := make([]int, tries)
			together(hands, tries, func(number int) api.Climbed {
				seen[number]++
				return api.Climbed{Try: number}
			})
			if !slices.Equal(seen, slices.Repeat([]int{1}, tries)) {
				t.Errorf("%d hands tried so often: %d", hands, seen)
			}
		}
	}
}

// All hands try at the same time: each waits until all of them have begun.
func TestJ2AllHandsTry(t *testing.T) {
	for hands := 1; hands <= api.MaxHands; hands++ {
		var lock sync.Mutex
		begun, all := 0, make(chan bool)
		together(hands, hands, func(int) api.Climbed {
			lock.Lock()
			begun++
			if begun == hands {
				close(all)
			}
			lock.Unlock()
			select {
			case <-all:
			case <-time.After(20 * time.Second):
				t.Errorf("%d hands: not all of them have begun", hands)
			}
			return api.Climbed{}
		})
	}
}

// handsNow is how many hands there are: all stacks are told at one moment, and each says who began it.
func handsNow() int {
	stacks := make([]byte, 1<<20)
	stacks = stacks[:runtime.Stack(stacks, true)]
	return bytes.Count(stacks, []byte("created by blackroom/climb.together in "))
}

// allGone waits until no hands are left: whoever has told that it is done still has to go.
func allGone(t *testing.T) {
	t.Helper()
	for end := time.Now().Add(20 * time.Second); handsNow() > 0; time.Sleep(time.Millisecond) {
		if time.Now().After(end) {
			t.Fatalf("%d hands are left behind", handsNow())
		}
	}
}

// mostAtOnce is how many hands are seen at most while a call runs.
func mostAtOnce(call func()) int {
	most, done := 0, make(chan bool)
	go func() {
		call()
		close(done)
	}()
	for {
		select {
		case <-done:
			return most
		default:
			most = max(most, handsNow())
		}
	}
}

// A call may be over ahead of being seen at work: so it is called until all hands are seen, and some times at least, so that more would be. Whoever looks has a thread of its own, so that it need not wait, though there be one processor.
func TestJ2ClimbHasSoManyHands(t *testing.T) {
	defer runtime.GOMAXPROCS(runtime.GOMAXPROCS(api.MaxHands + 2))
	r := rand.New(rand.NewSource(166))
	text, points := someText(r, 26, api.MaxClimb), somePoints(r, api.MaxPoint)
	for _, hands := range []int{1, 2, 9, api.MaxHands} {
		most, end := 0, time.Now().Add(30*time.Second)
		for calls := 0; calls < 10 || most < hands && time.Now().Before(end); calls++ {
			allGone(t)
			most = max(most, mostAtOnce(func() { Climb(text, points, 5, api.MaxTries, hands) }))
		}
		if most != hands {
			t.Errorf("%d are at work; want %d", most, hands)
		}
	}
}

func TestE1ClimbLeavesNobodyBehind(t *testing.T) {
	points := make([]int, 676)
	for range 200 {
		Climb("ABC", points, 1, 1, api.MaxHands)
		Climb("ABC", points, 1, 0, api.MaxHands)
		Climb("ABC", nil, 1, 1, api.MaxHands)
	}
	allGone(t)
}

// Several that climb by the same table do not know of one another.
func TestE1ManyClimbsAtOnce(t *testing.T) {
	r := rand.New(rand.NewSource(167))
	text, points, key := someText(r, 26, 40), somePoints(r, 3), someKey(r)
	wants, score := climbsOnPaper(text, points, 11, 4), scoreOnPaper(text, points, key)
	var group sync.WaitGroup
	for i := range 24 {
		group.Go(func() {
			for range 5 {
				wantClimb(t, text, points, 11, 1+i%4, 1+i%api.MaxHands, wants[i%4], api.OK)
				wantScore(t, text, points, key, score, api.OK)
			}
		})
	}
	group.Wait()
}
