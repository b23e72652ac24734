package register

import (
	"math"
	"math/rand"
	"slices"
	"testing"

	"blackroom/api"
)

func wantRun(t *testing.T, taps, start []int, n int, want []int, wantErr api.Errno) {
	t.Helper()
	got, err := Run(taps, start, n)
	if err != wantErr || !slices.Equal(got, want) || err != api.OK && got != nil {
		t.Errorf("Run(%d taps %d, %d bits %d, %d) = %d bits %d, %d; want %d bits %d, %d", len(taps), head(taps), len(start), head(start), n, len(got), head(got), err, len(want), head(want), wantErr)
	}
}

// head is as much of a long list as is worth telling.
func head(l []int) []int { return l[:min(len(l), 40)] }

// bitsOf are written as digits.
func bitsOf(digits string) []int {
	out := make([]int, len(digits))
	for i := range out {
		out[i] = int(digits[i] - '0')
	}
	return out
}

// someBits has a 1 at one of so many places.
func someBits(r *rand.Rand, long, rare int) []int {
	out := make([]int, long)
	for i := range out {
		if r.Intn(rare) == 0 {
			out[i] = 1
		}
	}
	return out
}

// madeOnPaper counts the ones that are added to each further bit.
func madeOnPaper(taps, start []int, n int) []int {
	all := slices.Clone(start)
	for len(all) < n {
		ones := 0
		for tap := 1; tap <= len(taps); tap++ {
			if taps[tap-1] == 1 && all[len(all)-tap] == 1 {
				ones++
			}
		}
		all = append(all, ones%2)
	}
	return all[:n]
}

// set is l with another number at one place.
func set(l []int, at, v int) []int {
	out := slices.Clone(l)
	out[at] = v
	return out
}

// notBits are numbers that are none.
func notBits() []int {
	return []int{-1, 2, 3, -2, '0', '1', 256, 257, 1 << 32, 1<<32 + 1, -1 << 32, math.MaxInt, math.MinInt, math.MinInt + 1}
}

func notLong() []int {
	return []int{-1, -2, math.MinInt, math.MinInt + 1, api.MaxLong + 1, api.MaxLong + 2, 1 << 32, math.MaxInt}
}

func TestG1Run(t *testing.T) {
	for _, c := range []struct {
		taps, start string
		want        string
	}{
		{"11", "01", "01101"},
		{"11", "00", "000000"},
		{"1", "1", "11111"},
		{"0", "1", "10000"},
		{"1", "0", "00000"},
		{"00", "11", "110000"},
		{"01", "10", "10101010"},
		{"10", "10", "100000"},
		{"10", "01", "011111"},
		{"001", "110", "110110110"},
		{"101", "110", "11010011101001"},
		{"011", "110", "11001011100101"},
		{"0011", "1000", "100010011010111100010"},
		{"", "", "00000"},
	} {
		for n := range len(c.want) + 1 {
			wantRun(t, bitsOf(c.taps), bitsOf(c.start), n, bitsOf(c.want[:n]), api.OK)
			if paper := madeOnPaper(bitsOf(c.taps), bitsOf(c.start), n); !slices.Equal(paper, bitsOf(c.want[:n])) {
				t.Errorf("taps %s, begun with %s: on paper it is %d", c.taps, c.start, paper)
			}
		}
	}
}

func TestG1RunAsOnPaper(t *testing.T) {
	r := rand.New(rand.NewSource(11))
	for range 2000 {
		long := r.Intn(40)
		taps, start, n := someBits(r, long, 1+r.Intn(4)), someBits(r, long, 1+r.Intn(4)), r.Intn(120)
		wantRun(t, taps, start, n, madeOnPaper(taps, start, n), api.OK)
	}
}

func TestG1FewerBitsThanTaps(t *testing.T) {
	r := rand.New(rand.NewSource(12))
	for _, long := range []int{1, 2, 64, api.MaxBits} {
		taps, start := someBits(r, long, 2), someBits(r, long, 2)
		for n := range long + 1 {
			wantRun(t, taps, start, n, start[:n], api.OK)
		}
	}
}

func TestG1LongestOnes(t *testing.T) {
	r := rand.New(rand.NewSource(13))
	for _, long := range []int{0, 1, 63, 64, 65, api.MaxBits - 1, api.MaxBits} {
		taps, start := someBits(r, long, 2), someBits(r, long, 2)
		wantRun(t, taps, start, api.MaxLong, madeOnPaper(taps, start, api.MaxLong), api.OK)
		wantRun(t, taps, start, api.MaxLong-1, madeOnPaper(taps, start, api.MaxLong-1), api.OK)
	}
	// One tap, the last one, tells the beginning again and again.
	start := someBits(r, api.MaxBits, 2)
	wantRun(t, set(make([]int, api.MaxBits), api.MaxBits-1, 1), start, api.MaxLong, slices.Repeat(start, api.MaxLong/api.MaxBits), api.OK)
}

// A register of 16 taps that makes all beginnings but noughts: no bits come again sooner.
func TestG1LongestPeriod(t *testing.T) {
	taps, start := make([]int, 16), make([]int, 16)
	for _, tap := range []int{4, 13, 15, 16} {
		taps[tap-1] = 1
	}
	start[0] = 1
	made, err := Run(taps, start, api.MaxLong)
	ones, seen, last := 0, make([]bool, 1<<16), 0
	for i, bit := range made {
		ones += bit
		last = (2*last + bit) % len(seen)
		if i < 15 {
			continue
		}
		if seen[last] {
			t.Fatalf("%016b comes again with bit %d", last, i)
		}
		seen[last] = true
	}
	// In the 65535 bits of a period ones are one more than half; the last bit is the first one again.
	if err != api.OK || len(made) != api.MaxLong || ones != 1<<15+1 {
		t.Errorf("Run = %d bits with %d ones, %d", len(made), ones, err)
	}
}

func TestG1WhatDoesNotFit(t *testing.T) {
	for _, c := range []struct{ taps, start int }{
		{0, 1}, {1, 0}, {1, 2}, {2, 1}, {3, 0}, {api.MaxBits, api.MaxBits - 1}, {api.MaxBits - 1, api.MaxBits}, {api.MaxBits, api.MaxBits + 1},
		{api.MaxBits + 1, api.MaxBits}, {api.MaxBits + 1, api.MaxBits + 1}, {api.MaxBits + 1, 0}, {0, api.MaxBits + 1}, {api.MaxLong, api.MaxLong},
	} {
		for _, n := range append([]int{0, 1, 3, api.MaxLong}, notLong()...) {
			taps, start := make([]int, c.taps), make([]int, c.start)
			wantRun(t, taps, start, n, nil, api.ErrFit)
			// That something does not fit is told ahead of numbers that are too small or too large.
			for _, wrong := range []int{-1, 2} {
				if c.taps > 0 {
					wantRun(t, set(taps, c.taps-1, wrong), start, n, nil, api.ErrFit)
				}
				if c.start > 0 {
					wantRun(t, taps, set(start, 0, wrong), n, nil, api.ErrFit)
				}
			}
		}
	}
}

func TestG1NumbersThatAreWrong(t *testing.T) {
	for _, n := range notLong() {
		wantRun(t, nil, nil, n, nil, api.ErrRange)
		wantRun(t, []int{1, 1}, []int{0, 1}, n, nil, api.ErrRange)
		wantRun(t, []int{1, 2}, []int{-1, 1}, n, nil, api.ErrRange)
	}
	for _, long := range []int{1, 2, 5, api.MaxBits} {
		good := slices.Repeat([]int{1}, long)
		for at := range long {
			for _, wrong := range notBits() {
				// They are wrong even where nothing is asked for.
				for _, n := range []int{0, 1, 2 * long} {
					wantRun(t, set(good, at, wrong), good, n, nil, api.ErrRange)
					wantRun(t, good, set(good, at, wrong), n, nil, api.ErrRange)
				}
			}
		}
	}
}

// roomy has the same numbers, and spare room behind them in which others stand.
func roomy(l []int) []int { return append(slices.Clone(l), 1, 0, 1, 7, -1)[:len(l)] }

// spoil writes over a list and the spare room behind it.
func spoil(l []int) {
	l = l[:cap(l)]
	for i := range l {
		l[i] = 9
	}
}

func TestE2RunOnlyReads(t *testing.T) {
	for _, c := range []struct {
		taps, start []int
		n           int
	}{
		{[]int{1, 0, 1}, []int{1, 1, 0}, 14}, {[]int{1, 0, 1}, []int{1, 1, 0}, 3}, {[]int{1, 0, 1}, []int{1, 1, 0}, 2}, {nil, nil, 4},
		{[]int{1, 2, 1}, []int{1, 1, 0}, 4}, {[]int{1}, []int{1, 1}, 4}, {[]int{1, 1}, []int{1, 1}, -1},
	} {
		taps, start := roomy(c.taps), roomy(c.start)
		allTaps, allStart := slices.Clone(taps[:cap(taps)]), slices.Clone(start[:cap(start)])
		want, wantErr := Run(c.taps, c.start, c.n)
		want = slices.Clone(want)
		wantRun(t, taps, start, c.n, want, wantErr)
		got, _ := Run(taps, start, c.n)
		if !slices.Equal(taps[:cap(taps)], allTaps) || !slices.Equal(start[:cap(start)], allStart) {
			t.Errorf("what was handed in became %d and %d; it was %d and %d", taps[:cap(taps)], start[:cap(start)], allTaps, allStart)
		}
		spoil(taps)
		spoil(start)
		if !slices.Equal(got, want) {
			t.Errorf("the answer became %d with what was handed in; it was %d", got, want)
		}
		spoil(got)
		wantRun(t, c.taps, c.start, c.n, want, wantErr)
	}
}

// What begins the register may be its taps.
func TestE2RunOfOneListTwice(t *testing.T) {
	l := []int{1, 0, 1}
	got, err := Run(l, l, 9)
	if want := madeOnPaper(l, l, 9); err != api.OK || !slices.Equal(got, want) {
		t.Errorf("Run = %d, %d; want %d", got, err, want)
	}
	spoil(got)
	if !slices.Equal(l, []int{1, 0, 1}) {
		t.Errorf("what was handed in became %d", l)
	}
}

func TestE3RunOfNothing(t *testing.T) {
	for _, taps := range [][]int{nil, {}, make([]int, 0, 4)} {
		for _, start := range [][]int{nil, {}, make([]int, 0, 4)} {
			wantRun(t, taps, start, 0, nil, api.OK)
			wantRun(t, taps, start, 3, []int{0, 0, 0}, api.OK)
			wantRun(t, taps, start, -1, nil, api.ErrRange)
			wantRun(t, taps, []int{0}, 3, nil, api.ErrFit)
			wantRun(t, []int{0}, start, 3, nil, api.ErrFit)
		}
	}
}
