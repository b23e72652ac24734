package tableau

import (
	"math"
	"math/big"
	"math/rand"
	"slices"
	"strings"
	"testing"

	"blackroom/api"
)

func wantRepeats(t *testing.T, text string, long int, want []api.Repeat, wantFault api.Fault) {
	t.Helper()
	got, f := Repeats(text, long)
	if f != wantFault || !slices.Equal(got, want) || f.Err != api.OK && got != nil {
		t.Errorf("Repeats(%.40q of %d bytes, %d) = %d of them, %v, %v; want %d, %v, %v", text, len(text), long, len(got), got[:min(len(got), 20)], f, len(want), want[:min(len(want), 20)], wantFault)
	}
}

func wantCommon(t *testing.T, l []api.Repeat, want int, wantErr api.Errno) {
	t.Helper()
	if got, err := Common(l); got != want || err != wantErr {
		t.Errorf("Common(%v) = %d, %d; want %d, %d", l, got, err, want, wantErr)
	}
}

// byHand holds each place against all later ones, letter by letter.
func byHand(text string, long int) []api.Repeat {
	var out []api.Repeat
	for at := 0; at+long <= len(text); at++ {
		for far := 1; at+far+long <= len(text); far++ {
			if strings.HasPrefix(text[at+far:], text[at:at+long]) {
				out = append(out, api.Repeat{At: at, Far: far})
				break
			}
		}
	}
	return out
}

func TestT3Repeats(t *testing.T) {
	for _, c := range []struct {
		text string
		long int
		want []api.Repeat
	}{
		{"", 1, nil},
		{"A", 1, nil},
		{"AB", 1, nil},
		{"AA", 1, []api.Repeat{{At: 0, Far: 1}}},
		{"AA", 2, nil},
		{"AAA", 2, []api.Repeat{{At: 0, Far: 1}}},
		{"AAAAA", 3, []api.Repeat{{At: 0, Far: 1}, {At: 1, Far: 1}}},
		{"ABABA", 3, []api.Repeat{{At: 0, Far: 2}}},
		{"ABCXABCYYABC", 3, []api.Repeat{{At: 0, Far: 4}, {At: 4, Far: 5}}},
		{"ABCXABCYYABC", 2, []api.Repeat{{At: 0, Far: 4}, {At: 1, Far: 4}, {At: 4, Far: 5}, {At: 5, Far: 5}}},
		{"ABCXABCYYABC", 4, nil},
		{"XYZABZYXAB", 2, []api.Repeat{{At: 3, Far: 5}}},
		{"XYZABZYXAB", 1, []api.Repeat{{At: 0, Far: 7}, {At: 1, Far: 5}, {At: 2, Far: 3}, {At: 3, Far: 5}, {At: 4, Far: 5}}},
		{alphabet, 1, nil},
		{alphabet + alphabet, 26, []api.Repeat{{At: 0, Far: 26}}},
		{alphabet + alphabet, 27, nil},
	} {
		wantRepeats(t, c.text, c.long, c.want, api.Fault{})
		if !slices.Equal(byHand(c.text, c.long), c.want) {
			t.Errorf("%q, %d: by hand it is %v", c.text, c.long, byHand(c.text, c.long))
		}
	}
}

func TestT3RepeatsByHand(t *testing.T) {
	r := rand.New(rand.NewSource(55))
	for range 600 {
		text := someOf(r, r.Intn(40), 1+r.Intn(4))
		for long := 1; long <= len(text)+2; long++ {
			wantRepeats(t, text, long, byHand(text, long), api.Fault{})
		}
	}
}

func TestT3RepeatsAsLongAsTheTextAndLonger(t *testing.T) {
	for _, text := range []string{"", "A", "AAAA", strings.Repeat("A", api.MaxScan)} {
		for _, long := range []int{max(len(text), 1), len(text) + 1, len(text) + 2, api.MaxText, 1 << 32, 1 << 62, math.MaxInt} {
			wantRepeats(t, text, long, nil, api.Fault{})
		}
	}
	wantRepeats(t, "AAAA", 3, []api.Repeat{{At: 0, Far: 1}}, api.Fault{})
	wantRepeats(t, "AAAB", 3, nil, api.Fault{})
}

func TestT3RepeatsInLongTexts(t *testing.T) {
	r := rand.New(rand.NewSource(4096))
	text := someOf(r, api.MaxScan, 3)
	for _, long := range []int{1, 5, 12} {
		wantRepeats(t, text, long, byHand(text, long), api.Fault{})
	}
	all := strings.Repeat("A", api.MaxScan)
	for _, long := range []int{1, 2, api.MaxScan / 2, api.MaxScan - 1} {
		want := make([]api.Repeat, api.MaxScan-long)
		for i := range want {
			want[i] = api.Repeat{At: i, Far: 1}
		}
		wantRepeats(t, all, long, want, api.Fault{})
	}
	half := someText(r, api.MaxScan/2)
	wantRepeats(t, half+half, len(half), []api.Repeat{{At: 0, Far: len(half)}}, api.Fault{})
}

func TestT3RepeatsThatAreWrong(t *testing.T) {
	below := []int{0, -1, -api.MaxScan, math.MinInt}
	for _, long := range append([]int{1, 3, api.MaxScan, math.MaxInt}, below...) {
		for _, c := range wrongTexts {
			wantRepeats(t, c.text, long, nil, c.want)
		}
		for _, n := range []int{api.MaxScan + 1, 2 * api.MaxScan, api.MaxText} {
			wantRepeats(t, strings.Repeat("A", n), long, nil, fault(api.ErrMuch, 0))
		}
		wantRepeats(t, strings.Repeat("A", api.MaxScan+1)+"a", long, nil, fault(api.ErrForm, api.MaxScan+1))
	}
	for _, long := range below {
		for _, text := range []string{"", "A", "ABCABC", strings.Repeat("A", api.MaxScan)} {
			wantRepeats(t, text, long, nil, fault(api.ErrRange, 0))
		}
	}
}

func TestT3Common(t *testing.T) {
	for _, c := range []struct {
		far  []int
		want int
	}{
		{[]int{5}, 5},
		{[]int{1}, 1},
		{[]int{math.MaxInt}, math.MaxInt},
		{[]int{12, 18}, 6},
		{[]int{18, 12}, 6},
		{[]int{6, 6, 6}, 6},
		{[]int{5, 7}, 1},
		{[]int{6, 10, 15}, 1},
		{[]int{12, 20, 28}, 4},
		{[]int{1, math.MaxInt}, 1},
		{[]int{math.MaxInt, math.MaxInt - 1}, 1},
		{[]int{1 << 62, 1 << 40, 3 << 41}, 1 << 40},
		{[]int{1 << 62, 1 << 62}, 1 << 62},
	} {
		var l []api.Repeat
		for i, far := range c.far {
			// Where they stand means nothing, even where none can.
			l = append(l, api.Repeat{At: []int{i, -1, math.MinInt, math.MaxInt}[i%4], Far: far})
		}
		wantCommon(t, l, c.want, api.OK)
		slices.Reverse(l)
		wantCommon(t, l, c.want, api.OK)
	}
}

func TestT3CommonOfAny(t *testing.T) {
	r := rand.New(rand.NewSource(56))
	for range 1000 {
		l := make([]api.Repeat, 1+r.Intn(5))
		want, of := new(big.Int), 1+r.Int63n(1<<uint(r.Intn(30)))
		for i := range l {
			l[i] = api.Repeat{At: r.Intn(100), Far: int(of * (1 + r.Int63n(1<<uint(1+r.Intn(30)))))}
			want.GCD(nil, nil, want, big.NewInt(int64(l[i].Far)))
		}
		wantCommon(t, l, int(want.Int64()), api.OK)
	}
}

func TestT3CommonThatIsWrong(t *testing.T) {
	wantCommon(t, nil, 0, api.ErrNone)
	wantCommon(t, []api.Repeat{}, 0, api.ErrNone)
	for _, bad := range []int{0, -1, -5, math.MinInt} {
		for _, fars := range [][]int{{bad}, {bad, 5}, {5, bad}, {5, 7, bad}, {5, bad, 7}, {bad, bad}} {
			var l []api.Repeat
			for i, far := range fars {
				l = append(l, api.Repeat{At: i, Far: far})
			}
			wantCommon(t, l, 0, api.ErrRange)
		}
	}
	wantCommon(t, make([]api.Repeat, 3), 0, api.ErrRange)
}

// What comes again in a text as far apart as the key is long comes again in what became of it, and tells how long the key may be.
func TestT3WhatComesAgainTellsTheKey(t *testing.T) {
	r := rand.New(rand.NewSource(57))
	const piece = "ATTACKATDAWN"
	for _, kind := range keyable {
		for long := 1; long <= 20; long++ {
			text := ""
			for _, times := range []int{3, 2, 5} {
				far := (len(piece)/long + times) * long
				text += piece + someText(r, far-len(piece))
			}
			text += piece
			told, _ := Write(kind, someText(r, long), text)
			l, f := Repeats(told, len(piece))
			common, err := Common(l)
			if f != (api.Fault{}) || err != api.OK || len(l) < 3 || common%long != 0 {
				t.Errorf("kind %d, a key of %d letters: %v, %v; in common %d, %d", kind, long, l, f, common, err)
			}
		}
	}
}

func TestE2RepeatsAreNew(t *testing.T) {
	first, _ := Repeats("ABCABCABC", 2)
	want := slices.Clone(first)
	clear(first[:cap(first)])
	wantRepeats(t, "ABCABCABC", 2, want, api.Fault{})
}

func TestE2RepeatsAreOnlyRead(t *testing.T) {
	for _, l := range [][]api.Repeat{{{At: 1, Far: 18}, {At: 3, Far: 12}}, {{At: 1, Far: 18}, {At: 3, Far: 0}}, {}} {
		room := append(slices.Clone(l), api.Repeat{At: 9, Far: 5}, api.Repeat{At: -1, Far: -1})
		was := slices.Clone(room)
		want, wantErr := Common(l)
		wantCommon(t, room[:len(l)], want, wantErr)
		if !slices.Equal(room, was) {
			t.Errorf("repeats became %v; they were %v", room, was)
		}
	}
}
