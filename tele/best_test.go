package tele

import (
	"bytes"
	"math"
	"math/rand"
	"runtime"
	"slices"
	"strings"
	"sync"
	"testing"
	"time"

	"blackroom/api"
)

func wantBest(t *testing.T, text []int, a, b api.Pins, hands int, want api.Hit, wantErr api.Errno) {
	t.Helper()
	if got, err := Best(text, a, b, hands); got != want || err != wantErr {
		t.Errorf("Best(%d letters %d, %s, %s, %d) = %v, %d; want %v, %d", len(text), head(text), signs(a), signs(b), hands, got, err, want, wantErr)
	}
}

func signs(wheel api.Pins) string {
	out := ""
	for i := range wheel {
		out += map[string]string{"1": "x", "0": "."}[hole(wheel, i)]
	}
	return out
}

func pinsOf(wheel string) api.Pins {
	out := make(api.Pins, len(wheel))
	for i := range out {
		out[i] = wheel[i] == 'x'
	}
	return out
}

// fitsOnPaper asks at each letter that another one follows which of the four change.
func fitsOnPaper(text []int, a, b api.Pins, beginA, beginB int) int {
	count := 0
	for i := 1; i < len(text); i++ {
		before, now := punched(text[i-1]), punched(text[i])
		changed := 0
		for _, pair := range [][2]string{
			{before[:1], now[:1]},
			{before[1:2], now[1:2]},
			{hole(a, beginA+i-1), hole(a, beginA+i)},
			{hole(b, beginB+i-1), hole(b, beginB+i)},
		} {
			if pair[0] != pair[1] {
				changed++
			}
		}
		if changed == 0 || changed == 2 || changed == 4 {
			count++
		}
	}
	return count
}

// bestOnPaper tries all in the order in which as good ones are told.
func bestOnPaper(text []int, a, b api.Pins) api.Hit {
	best := api.Hit{Count: -1}
	for beginA := range a {
		for beginB := range b {
			if n := fitsOnPaper(text, a, b, beginA, beginB); n > best.Count {
				best = api.Hit{A: beginA, B: beginB, Count: n}
			}
		}
	}
	return best
}

func notHands() []int {
	return []int{0, -1, -16, api.MaxHands + 1, api.MaxHands + 2, 1 << 32, math.MinInt, math.MaxInt}
}

func TestX3BestByHand(t *testing.T) {
	for _, c := range []struct {
		text []int
		a, b string
		want api.Hit
	}{
		{nil, "x.", "x..", api.Hit{}},
		{[]int{31}, "x.", "x..", api.Hit{}},
		// A wheel of one pin never changes: so the two holes must change alike.
		{[]int{0, 0}, "x", "x", api.Hit{Count: 1}},
		{[]int{0, 16}, "x", "x", api.Hit{}},
		{[]int{0, 8}, "x", ".", api.Hit{}},
		{[]int{0, 24}, ".", "x", api.Hit{Count: 1}},
		{[]int{16, 8}, ".", "x", api.Hit{Count: 1}},
		// The other three holes say nothing.
		{[]int{0, 7, 3, 5}, "x", "x", api.Hit{Count: 3}},
		{[]int{0, 23, 4}, "x", "x", api.Hit{}},
		// A wheel of two changes always, one with two alike of three does not once in a round.
		{[]int{0, 0}, "x.", "x", api.Hit{}},
		{[]int{0, 16, 0}, "x.", "x", api.Hit{Count: 2}},
		{[]int{0, 16, 0}, "x.", ".x", api.Hit{}},
		{[]int{0, 24, 0, 24}, "x.", ".x", api.Hit{Count: 3}},
		{[]int{0, 16, 16}, "xx.", "x", api.Hit{A: 2, Count: 2}},
		{[]int{0, 0, 16}, "xx.", "x", api.Hit{A: 0, Count: 2}},
		{[]int{0, 16, 0}, "xx.", "x", api.Hit{A: 1, Count: 2}},
		{[]int{0, 16, 16}, "x", "xx.", api.Hit{B: 2, Count: 2}},
		{[]int{0, 8, 8}, "x", "xx.", api.Hit{B: 2, Count: 2}},
		// Of as good ones the least A, of these the least B.
		{[]int{0, 0}, "xx.", "xx.", api.Hit{Count: 1}},
		{[]int{0, 16}, "xx.", "xx.", api.Hit{A: 0, B: 1, Count: 1}},
		{[]int{0, 16}, "xx.", "x.", api.Hit{A: 0, B: 0, Count: 1}},
		{[]int{0, 0}, "xx.", "x.", api.Hit{A: 1, B: 0, Count: 1}},
		{[]int{0, 0}, "xx.", "x.x.", api.Hit{A: 1, B: 0, Count: 1}},
		{[]int{3, 17, 24, 8, 30, 1, 1, 20, 9, 31, 16, 2, 7}, "x.xx.", "..xx", api.Hit{A: 3, B: 0, Count: 10}},
	} {
		a, b := pinsOf(c.a), pinsOf(c.b)
		for hands := 1; hands <= api.MaxHands; hands++ {
			wantBest(t, c.text, a, b, hands, c.want, api.OK)
		}
		if paper := bestOnPaper(c.text, a, b); paper != c.want {
			t.Errorf("%d, %s, %s: on paper it is %v; want %v", c.text, c.a, c.b, paper, c.want)
		}
	}
}

func TestX3BestAsOnPaper(t *testing.T) {
	r := rand.New(rand.NewSource(137))
	for range 1500 {
		a, b := someWheel(r, 1+r.Intn(9)), someWheel(r, 1+r.Intn(9))
		text := someText(r, r.Intn(120))
		wantBest(t, text, a, b, 1+r.Intn(api.MaxHands), bestOnPaper(text, a, b), api.OK)
	}
	for range 5 {
		a, b := someWheel(r, api.MaxPins), someWheel(r, api.MaxPins-r.Intn(3))
		text := someText(r, 100+r.Intn(200))
		wantBest(t, text, a, b, 1+r.Intn(api.MaxHands), bestOnPaper(text, a, b), api.OK)
	}
}

// Texts that are longer than both wheels together go round by whole rounds, and by parts of one.
func TestX3TextsOfAnyLength(t *testing.T) {
	r := rand.New(rand.NewSource(138))
	for _, c := range [][2]int{{1, 1}, {1, 5}, {5, 1}, {3, 4}, {4, 6}, {6, 6}} {
		a, b, text := someWheel(r, c[0]), someWheel(r, c[1]), someText(r, 80)
		for n := range text {
			wantBest(t, text[:n], a, b, 3, bestOnPaper(text[:n], a, b), api.OK)
		}
	}
}

// What two wheels of Chi added to a text that hardly changes is found where they began.
func TestX3WheelsAreFound(t *testing.T) {
	r := rand.New(rand.NewSource(139))
	for range 10 {
		m := someMachine(r, 5)
		put(&m, 0, someWheel(r, 41), r.Intn(41))
		put(&m, 1, someWheel(r, 31), r.Intn(31))
		for i := 5; i < 10; i++ {
			put(&m, i, api.Pins{false}, 0)
		}
		text := make([]int, 3000)
		for i := 1; i < len(text); i++ {
			text[i] = text[i-1]
			if r.Intn(3) == 0 {
				text[i] = r.Intn(Holes)
			}
		}
		hidden, err := Write(m, text)
		if err != api.OK {
			t.Fatalf("Write = %d", err)
		}
		count := fitsOnPaper(hidden, m.Chi[0], m.Chi[1], m.ChiAt[0], m.ChiAt[1])
		wantBest(t, hidden, m.Chi[0], m.Chi[1], 8, api.Hit{A: m.ChiAt[0], B: m.ChiAt[1], Count: count}, api.OK)
	}
}

func TestX3LongestOnes(t *testing.T) {
	r := rand.New(rand.NewSource(140))
	text := someText(r, api.MaxText)
	a, b := someWheel(r, api.MaxPins), someWheel(r, api.MaxPins-1)
	got, err := Best(text, a, b, 1)
	if err != api.OK || got.Count != fitsOnPaper(text, a, b, got.A, got.B) || got.Count <= api.MaxText/2 {
		t.Errorf("Best = %v, %d", got, err)
	}
	for _, hands := range []int{2, 7, api.MaxHands} {
		wantBest(t, text, a, b, hands, got, api.OK)
	}
	noughts := make([]int, api.MaxText)
	wantBest(t, noughts, make(api.Pins, api.MaxPins), make(api.Pins, api.MaxPins), api.MaxHands, api.Hit{Count: api.MaxText - 1}, api.OK)
	wantBest(t, noughts, pinsOf("x."), make(api.Pins, api.MaxPins), api.MaxHands, api.Hit{}, api.OK)
	wantBest(t, text, pinsOf("x."), pinsOf("xxx"), 5, bestOnPaper(text, pinsOf("x."), pinsOf("xxx")), api.OK)
	wantBest(t, append(noughts, 0), pinsOf("x"), pinsOf("x"), 1, api.Hit{}, api.ErrMany)
}

func TestX3WhatIsWrong(t *testing.T) {
	good := []int{1, 17, 3}
	wheels := []api.Pins{nil, {}, make(api.Pins, 0, 3), make(api.Pins, api.MaxPins+1), make(api.Pins, 9999)}
	for _, text := range [][]int{nil, {0}, good} {
		for _, wrong := range wheels {
			wantBest(t, text, wrong, pinsOf("x."), 1, api.Hit{}, api.ErrRange)
			wantBest(t, text, pinsOf("x."), wrong, 1, api.Hit{}, api.ErrRange)
			wantBest(t, text, wrong, wrong, 0, api.Hit{}, api.ErrRange)
		}
		for _, hands := range notHands() {
			wantBest(t, text, pinsOf("x."), pinsOf("x"), hands, api.Hit{}, api.ErrRange)
		}
	}
	for _, wrong := range notLetters() {
		for _, text := range [][]int{{wrong}, {wrong, 1}, {1, wrong}, {1, 2, wrong, 4}} {
			wantBest(t, text, pinsOf("x."), pinsOf("x"), 2, api.Hit{}, api.ErrRange)
		}
	}
	// That a text is too long is told ahead of all else.
	long := make([]int, api.MaxText+1)
	long[api.MaxText] = -1
	for _, wheel := range append(wheels, pinsOf("x.")) {
		for _, hands := range append([]int{1, api.MaxHands}, notHands()...) {
			wantBest(t, long, wheel, pinsOf("x"), hands, api.Hit{}, api.ErrMany)
			wantBest(t, long, pinsOf("x"), wheel, hands, api.Hit{}, api.ErrMany)
		}
	}
}

// Each number is looked at once, however many hands there are, and though there be fewer numbers than hands.
func TestX3EachNumberOnce(t *testing.T) {
	for hands := 1; hands <= api.MaxHands; hands++ {
		for _, many := range []int{0, 1, 2, hands, 500} {
			seen := make([]int, many)
			together(hands, many, func(number int) { seen[number]++ })
			if !slices.Equal(seen, slices.Repeat([]int{1}, many)) {
				t.Errorf("%d hands looked so often at %d numbers: %d", hands, many, seen)
			}
		}
	}
}

// All hands look at the same time: each waits until all of them have begun.
func TestX3AllHandsLook(t *testing.T) {
	for hands := 1; hands <= api.MaxHands; hands++ {
		var lock sync.Mutex
		begun, all := 0, make(chan bool)
		together(hands, hands, func(int) {
			lock.Lock()
			begun++
			if begun == hands {
				close(all)
			}
			lock.Unlock()
			select {
			case <-all:
			case <-time.After(20 * time.Second):
				t.Errorf("%d hands: not all of them have begun", hands)
			}
		})
	}
}

// handsNow is how many hands there are: all stacks are told at one moment, and each says who began it.
func handsNow() int {
	stacks := make([]byte, 1<<20)
	stacks = stacks[:runtime.Stack(stacks, true)]
	return bytes.Count(stacks, []byte("created by blackroom/tele.together in "))
}

// allGone waits until no hands are left: whoever has told that it is done still has to go.
func allGone(t *testing.T) {
	t.Helper()
	for end := time.Now().Add(20 * time.Second); handsNow() > 0; time.Sleep(time.Millisecond) {
		if time.Now().After(end) {
			t.Fatalf("%d hands are left behind", handsNow())
		}
	}
}

// mostAtOnce is how many hands are seen at most while a call runs.
func mostAtOnce(call func()) int {
	most, done := 0, make(chan bool)
	go func() {
		call()
		close(done)
	}()
	for {
		select {
		case <-done:
			return most
		default:
			most = max(most, handsNow())
		}
	}
}

// A call may be over ahead of being seen at work: so it is called until all hands are seen, and some times at least, so that more would be.
func TestX3BestHasSoManyHands(t *testing.T) {
	r := rand.New(rand.NewSource(141))
	text, a, b := someText(r, 4000), someWheel(r, api.MaxPins), someWheel(r, api.MaxPins-1)
	for _, hands := range []int{1, 2, 9, api.MaxHands} {
		most, end := 0, time.Now().Add(30*time.Second)
		for calls := 0; calls < 10 || most < hands && time.Now().Before(end); calls++ {
			allGone(t)
			most = max(most, mostAtOnce(func() { Best(text, a, b, hands) }))
		}
		if most != hands {
			t.Errorf("%d are at work; want %d", most, hands)
		}
	}
}

func TestE1BestLeavesNobodyBehind(t *testing.T) {
	text := []int{3, 17, 24, 8, 30}
	for range 200 {
		Best(text, pinsOf("x.xx."), pinsOf("..xx"), api.MaxHands)
		Best(text, nil, pinsOf("..xx"), api.MaxHands)
	}
	allGone(t)
}

// Several that look at the same lists do not know of one another.
func TestE1ManyCallsAtOnce(t *testing.T) {
	r := rand.New(rand.NewSource(142))
	text, a, b, m := someText(r, 300), someWheel(r, 17), someWheel(r, 13), someMachine(r, 20)
	want, key := bestOnPaper(text, a, b), keyOnPaper(m, 300)
	var group sync.WaitGroup
	for i := range 24 {
		group.Go(func() {
			for range 10 {
				wantBest(t, text, a, b, 1+i%api.MaxHands, want, api.OK)
				wantKey(t, m, 300, key, api.OK)
			}
		})
	}
	group.Wait()
}

func TestE2BestOnlyReads(t *testing.T) {
	for _, c := range []struct {
		text []int
		a, b string
	}{
		{[]int{3, 17, 24, 8, 30, 1, 1, 20}, "x.xx.", "..xx"}, {nil, "x", "x."}, {[]int{3, 32}, "x", "x"}, {[]int{3, 2}, "", "x"}, {[]int{3, 2}, "x", strings.Repeat("x", 48)},
	} {
		text, a, b := roomyText(c.text), roomyWheel(pinsOf(c.a)), roomyWheel(pinsOf(c.b))
		allText, allA, allB := slices.Clone(text[:cap(text)]), slices.Clone(a[:cap(a)]), slices.Clone(b[:cap(b)])
		got, err := Best(text, a, b, 4)
		if !slices.Equal(text[:cap(text)], allText) || !slices.Equal(a[:cap(a)], allA) || !slices.Equal(b[:cap(b)], allB) {
			t.Errorf("what was handed in has been changed: %d, %s, %s", text[:cap(text)], signs(a[:cap(a)]), signs(b[:cap(b)]))
		}
		wantBest(t, c.text, pinsOf(c.a), pinsOf(c.b), 4, got, err)
	}
	// One list may be both wheels, and a piece of it one.
	wheel, text := pinsOf("xx.x..x"), []int{3, 17, 24, 8, 30, 1, 1, 20, 9, 31}
	wantBest(t, text, wheel, wheel, 3, bestOnPaper(text, wheel, slices.Clone(wheel)), api.OK)
	wantBest(t, text, wheel[2:], wheel[:4], 3, bestOnPaper(text, pinsOf(".x..x"), pinsOf("xx.x")), api.OK)
}

func TestE3BestOfNothing(t *testing.T) {
	for _, text := range [][]int{nil, {}, make([]int, 0, 5)} {
		for hands := 1; hands <= api.MaxHands; hands++ {
			wantBest(t, text, pinsOf("x.x"), pinsOf(".x"), hands, api.Hit{}, api.OK)
		}
	}
}
