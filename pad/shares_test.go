package pad

import (
	"math"
	"math/rand"
	"slices"
	"testing"

	"blackroom/api"
)

func wantSplit(t *testing.T, n, secret int, chance, want []int, wantErr api.Errno) {
	t.Helper()
	got, err := Split(n, secret, chance)
	wantSigns(t, "Split", n, []int{secret}, chance, got, err, want, wantErr)
}

func wantJoin(t *testing.T, n int, shares []int, want int, wantErr api.Errno) {
	t.Helper()
	if got, err := Join(n, shares); got != want || err != wantErr {
		t.Errorf("Join(%d, %d numbers %d) = %d, %d; want %d, %d", n, len(shares), head(shares), got, err, want, wantErr)
	}
}

func joinedOnPaper(n int, shares []int) int {
	sum := 0
	for _, share := range shares {
		sum = onOnPaper(n, sum, share)
	}
	return sum
}

// splitOnPaper tries each sign behind the others.
func splitOnPaper(n, secret int, chance []int) []int {
	for last := range n {
		if shares := append(slices.Clone(chance), last); joinedOnPaper(n, shares) == secret {
			return shares
		}
	}
	return nil
}

func TestD3ByHand(t *testing.T) {
	for _, c := range []struct {
		n, secret    int
		chance, want []int
	}{
		{10, 7, nil, []int{7}},
		{10, 0, nil, []int{0}},
		{10, 7, []int{1}, []int{1, 6}},
		{10, 1, []int{7}, []int{7, 4}},
		{10, 7, []int{7}, []int{7, 0}},
		{10, 7, []int{9, 9, 9}, []int{9, 9, 9, 0}},
		{10, 2, []int{5, 5}, []int{5, 5, 2}},
		{2, 1, []int{1, 1, 1}, []int{1, 1, 1, 0}},
		{2, 0, []int{1, 1, 1}, []int{1, 1, 1, 1}},
		{64, 0, []int{1}, []int{1, 63}},
		{64, 63, []int{0, 0}, []int{0, 0, 63}},
	} {
		wantSplit(t, c.n, c.secret, c.chance, c.want, api.OK)
		wantJoin(t, c.n, c.want, c.secret, api.OK)
	}
	wantJoin(t, 10, []int{7, 5}, 2, api.OK)
	wantJoin(t, 10, []int{1, 2, 3}, 6, api.OK)
}

func TestD3EachSecretByEachChance(t *testing.T) {
	for n := 2; n <= 64; n++ {
		for secret := range n {
			wantSplit(t, n, secret, nil, []int{secret}, api.OK)
			wantJoin(t, n, []int{secret}, secret, api.OK)
			for chance := range n {
				wantSplit(t, n, secret, []int{chance}, []int{chance, backOnPaper(n, secret, chance)}, api.OK)
				wantJoin(t, n, []int{secret, chance}, onOnPaper(n, secret, chance), api.OK)
			}
		}
	}
}

func TestD3WhatIsSplitIsJoined(t *testing.T) {
	r := rand.New(rand.NewSource(146))
	for range 3000 {
		n := 2 + r.Intn(63)
		secret, chance := r.Intn(n), someSigns(r, n, r.Intn(16))
		shares := splitOnPaper(n, secret, chance)
		wantSplit(t, n, secret, chance, shares, api.OK)
		wantJoin(t, n, shares, secret, api.OK)
		// In whatever order they come.
		r.Shuffle(len(shares), func(i, j int) { shares[i], shares[j] = shares[j], shares[i] })
		wantJoin(t, n, shares, secret, api.OK)
	}
}

// Whichever share is kept back, the others are each as often, whatever the secret is.
func TestD3AllSharesButOneTellNothing(t *testing.T) {
	const n = 4
	for back := range 3 {
		for secret := range n {
			var seen [n][n]int
			for a := range n {
				for b := range n {
					shares, err := Split(n, secret, []int{a, b})
					if err != api.OK || len(shares) != 3 {
						t.Fatalf("Split(%d, %d, %d %d) = %d, %d", n, secret, a, b, shares, err)
					}
					others := slices.Delete(shares, back, back+1)
					seen[others[0]][others[1]]++
				}
			}
			for a, row := range seen {
				for b, times := range row {
					if times != 1 {
						t.Errorf("of the secret %d, without share %d, %d %d comes %d times", secret, back, a, b, times)
					}
				}
			}
		}
	}
}

func TestD3HowManyShares(t *testing.T) {
	for _, n := range []int{2, 10, 64} {
		for many := range 40 {
			signs := slices.Repeat([]int{n - 1}, many)
			if many < 16 {
				wantSplit(t, n, 1, signs, splitOnPaper(n, 1, signs), api.OK)
			} else {
				wantSplit(t, n, 1, signs, nil, api.ErrMany)
			}
			if many >= 1 && many <= 16 {
				wantJoin(t, n, signs, joinedOnPaper(n, signs), api.OK)
			} else {
				wantJoin(t, n, signs, 0, api.ErrMany)
			}
		}
		wantSplit(t, n, 1, make([]int, api.MaxText), nil, api.ErrMany)
		wantJoin(t, n, make([]int, api.MaxText), 0, api.ErrMany)
	}
}

func TestD3NoSuchKind(t *testing.T) {
	for _, n := range notKinds() {
		for _, signs := range [][]int{nil, {0}, {0, 0}, {-1}, {math.MaxInt}, make([]int, 16), make([]int, 17), slices.Repeat([]int{-1}, 17)} {
			for _, secret := range []int{0, 1, -1, n, math.MaxInt, math.MinInt} {
				wantSplit(t, n, secret, signs, nil, api.ErrKind)
			}
			wantJoin(t, n, signs, 0, api.ErrKind)
		}
	}
}

// Signs that are none are told ahead of too many, wherever they stand.
func TestD3NoSigns(t *testing.T) {
	for n := 2; n <= 64; n++ {
		for _, wrong := range notSigns(n) {
			if wrong >= 0 && wrong < n {
				continue
			}
			for _, many := range []int{0, 1, 3, 15, 16, 17, 40} {
				signs := make([]int, many)
				wantSplit(t, n, wrong, signs, nil, api.ErrRange)
				for at := range many {
					bad := set(signs, at, wrong)
					wantSplit(t, n, n-1, bad, nil, api.ErrRange)
					wantSplit(t, n, wrong, bad, nil, api.ErrRange)
					wantJoin(t, n, bad, 0, api.ErrRange)
				}
			}
		}
	}
}
