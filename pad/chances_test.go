package pad

import (
	"math"
	"math/rand"
	"slices"
	"testing"

	"blackroom/api"
)

func wantChances(t *testing.T, n int, weights []int, sign int, want []int, wantErr api.Errno) {
	t.Helper()
	got, err := Chances(n, weights, sign)
	wantSigns(t, "Chances", n, weights, []int{sign}, got, err, want, wantErr)
}

func wantSecret(t *testing.T, n int, weights []int, want bool, wantErr api.Errno) {
	t.Helper()
	if got, err := Secret(n, weights); got != want || err != wantErr {
		t.Errorf("Secret(%d, %d numbers %d) = %t, %d; want %t, %d", n, len(weights), head(weights), got, err, want, wantErr)
	}
}

// wantNoWeights: Chances of a sign and Secret tell the same error.
func wantNoWeights(t *testing.T, n int, weights []int, want api.Errno) {
	t.Helper()
	wantChances(t, n, weights, 0, nil, want)
	wantChances(t, n, weights, 1, nil, want)
	wantSecret(t, n, weights, false, want)
}

// chancesOnPaper enciphers sign by each key, and writes the key's weight at what comes of it.
func chancesOnPaper(n int, weights []int, sign int) []int {
	out := make([]int, n)
	for key, weight := range weights {
		out[onOnPaper(n, sign, key)] = weight
	}
	return out
}

// secretOnPaper holds the chances of all signs against those of 0.
func secretOnPaper(n int, weights []int) bool {
	for sign := range n {
		if !slices.Equal(chancesOnPaper(n, weights, sign), chancesOnPaper(n, weights, 0)) {
			return false
		}
	}
	return true
}

// notWeights are numbers that are none.
func notWeights() []int {
	return []int{-1, -2, api.MaxText + 1, api.MaxText + 2, -api.MaxText, 1 << 32, 1<<32 + 1, -1 << 32, math.MaxInt, math.MinInt, math.MinInt + 1}
}

func TestD2ChancesByHand(t *testing.T) {
	for _, c := range []struct {
		n, sign       int
		weights, want []int
	}{
		{2, 0, []int{3, 8}, []int{3, 8}},
		{2, 1, []int{3, 8}, []int{8, 3}},
		{3, 0, []int{5, 6, 7}, []int{5, 6, 7}},
		{3, 1, []int{5, 6, 7}, []int{7, 5, 6}}, // 1 becomes 1 by the key 0
		{3, 2, []int{5, 6, 7}, []int{6, 7, 5}},
		{4, 1, []int{0, 0, 0, 9}, []int{9, 0, 0, 0}},
		{4, 3, []int{0, 0, 0, 9}, []int{0, 0, 9, 0}},
		{4, 2, []int{0, 0, 0, 0}, []int{0, 0, 0, 0}},
		{5, 4, []int{0, api.MaxText, 1, 2, 3}, []int{api.MaxText, 1, 2, 3, 0}},
	} {
		wantChances(t, c.n, c.weights, c.sign, c.want, api.OK)
	}
}

func TestD2ChancesOfEachSign(t *testing.T) {
	r := rand.New(rand.NewSource(143))
	for n := 2; n <= 64; n++ {
		weights := someSigns(r, api.MaxText+1, n)
		for sign := range n {
			wantChances(t, n, weights, sign, chancesOnPaper(n, weights, sign), api.OK)
		}
	}
}

// What is written with each key as often as its weight says is as often each sign as its chances say.
func TestD2ChancesAreWhatWriteMakes(t *testing.T) {
	r := rand.New(rand.NewSource(144))
	for range 300 {
		n := 2 + r.Intn(63)
		weights, sign := someSigns(r, 20, n), r.Intn(n)
		var pad []int
		for key, weight := range weights {
			pad = append(pad, slices.Repeat([]int{key}, weight)...)
		}
		made, err := Write(n, slices.Repeat([]int{sign}, len(pad)), pad)
		if err != api.OK {
			t.Fatalf("Write of %d signs below %d: %d", len(pad), n, err)
		}
		counts := make([]int, n)
		for _, s := range made {
			counts[s]++
		}
		wantChances(t, n, weights, sign, counts, api.OK)
	}
}

func TestD2SecretByHand(t *testing.T) {
	for _, c := range []struct {
		weights []int
		want    bool
	}{
		{[]int{1, 1}, true},
		{[]int{0, 0}, true},
		{[]int{0, 1}, false},
		{[]int{1, 0}, false},
		{[]int{7, 7, 7}, true},
		{[]int{7, 7, 8}, false},
		{[]int{7, 8, 7}, false},
		{[]int{8, 7, 7}, false},
		{[]int{1, 2, 3}, false},
		{[]int{1, 2, 1, 2}, false}, // two signs have the same chances, but not all
		{[]int{api.MaxText, api.MaxText}, true},
		{[]int{api.MaxText, api.MaxText - 1}, false},
	} {
		wantSecret(t, len(c.weights), c.weights, c.want, api.OK)
	}
}

func TestD2SecretAllSmallWeights(t *testing.T) {
	for n := 2; n <= 6; n++ {
		weights := make([]int, n)
		for {
			wantSecret(t, n, weights, secretOnPaper(n, weights), api.OK)
			at := 0
			for at < n && weights[at] == 2 {
				weights[at] = 0
				at++
			}
			if at == n {
				break
			}
			weights[at]++
		}
	}
}

// One weight other than the rest, at each place, for all numbers of signs.
func TestD2SecretEachPlace(t *testing.T) {
	for n := 2; n <= 64; n++ {
		for _, weight := range []int{0, 1, 500, api.MaxText} {
			weights := slices.Repeat([]int{weight}, n)
			wantSecret(t, n, weights, true, api.OK)
			for at := range n {
				wantSecret(t, n, set(weights, at, (weight+1)%(api.MaxText+1)), false, api.OK)
			}
		}
	}
}

func TestD2SecretAsItsChancesSay(t *testing.T) {
	r := rand.New(rand.NewSource(145))
	for range 500 {
		n := 2 + r.Intn(20)
		// Weights that come again after a few are the same for some signs, and after one for all.
		piece := someSigns(r, 3, 1+r.Intn(4))
		weights := slices.Repeat(piece, n)[:n]
		wantSecret(t, n, weights, secretOnPaper(n, weights), api.OK)
	}
}

func TestD2NoSuchKind(t *testing.T) {
	for _, n := range notKinds() {
		for _, weights := range [][]int{nil, {1}, {1, 1}, {-1}, make([]int, 65), make([]int, 66), set(make([]int, 128), 5, -1)} {
			wantNoWeights(t, n, weights, api.ErrKind)
			for _, sign := range []int{-1, n, math.MaxInt, math.MinInt} {
				wantChances(t, n, weights, sign, nil, api.ErrKind)
			}
		}
	}
}

// A sign that is none is told ahead of weights of the wrong number: they may be a good deal too many.
func TestD2NoSign(t *testing.T) {
	for n := 2; n <= 64; n++ {
		for _, sign := range notSigns(n) {
			if sign >= 0 && sign < n {
				continue
			}
			for _, weights := range [][]int{make([]int, n), nil, make([]int, n-1), make([]int, n+1), make([]int, 1000), slices.Repeat([]int{-1}, n)} {
				wantChances(t, n, weights, sign, nil, api.ErrRange)
			}
		}
	}
}

func TestD2NotSoManyWeights(t *testing.T) {
	for n := 2; n <= 64; n++ {
		for many := range 70 {
			weights := slices.Repeat([]int{3}, many)
			if many != n {
				wantNoWeights(t, n, weights, api.ErrFit)
				// That is told ahead of weights that are none.
				wantNoWeights(t, n, slices.Repeat([]int{-1}, many), api.ErrFit)
				continue
			}
			wantChances(t, n, weights, n-1, weights, api.OK)
			wantSecret(t, n, weights, true, api.OK)
		}
		wantNoWeights(t, n, make([]int, api.MaxText), api.ErrFit)
	}
}

func TestD2NoWeights(t *testing.T) {
	for _, n := range []int{2, 3, 10, 64} {
		for _, wrong := range notWeights() {
			for at := range n {
				wantNoWeights(t, n, set(make([]int, n), at, wrong), api.ErrRange)
			}
			// Though all are the same.
			wantNoWeights(t, n, slices.Repeat([]int{wrong}, n), api.ErrRange)
		}
		// Weights are no signs: n and more may come.
		wantChances(t, n, slices.Repeat([]int{n}, n), 0, slices.Repeat([]int{n}, n), api.OK)
	}
	// It is told though others are not the same, whichever stands first.
	wantSecret(t, 3, []int{1, 2, -1}, false, api.ErrRange)
	wantSecret(t, 3, []int{api.MaxText + 1, 2, 1}, false, api.ErrRange)
}
