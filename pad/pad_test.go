package pad

import (
	"math"
	"math/rand"
	"slices"
	"testing"

	"blackroom/api"
)

// wantSigns holds what came against what must come; beside an error nil alone may come.
func wantSigns(t *testing.T, call string, n int, a, b, got []int, err api.Errno, want []int, wantErr api.Errno) {
	t.Helper()
	if err != wantErr || !slices.Equal(got, want) || err != api.OK && got != nil {
		t.Errorf("%s of n %d, %d numbers %d, %d numbers %d: %d numbers %d, %d; want %d numbers %d, %d", call, n, len(a), head(a), len(b), head(b), len(got), head(got), err, len(want), head(want), wantErr)
	}
}

func wantWrite(t *testing.T, n int, text, pad, want []int, wantErr api.Errno) {
	t.Helper()
	got, err := Write(n, text, pad)
	wantSigns(t, "Write", n, text, pad, got, err, want, wantErr)
}

func wantRead(t *testing.T, n int, text, pad, want []int, wantErr api.Errno) {
	t.Helper()
	got, err := Read(n, text, pad)
	wantSigns(t, "Read", n, text, pad, got, err, want, wantErr)
}

// wantNeither: Write and Read tell the same error.
func wantNeither(t *testing.T, n int, text, pad []int, want api.Errno) {
	t.Helper()
	wantWrite(t, n, text, pad, nil, want)
	wantRead(t, n, text, pad, nil, want)
}

// head is as much of a long list as is worth telling.
func head(l []int) []int { return l[:min(len(l), 40)] }

// onOnPaper goes on from a sign so many times; behind the last sign comes 0.
func onOnPaper(n, sign, times int) int {
	for range times {
		sign++
		if sign == n {
			sign = 0
		}
	}
	return sign
}

// backOnPaper goes back; ahead of 0 comes the last sign.
func backOnPaper(n, sign, times int) int {
	for range times {
		if sign == 0 {
			sign = n
		}
		sign--
	}
	return sign
}

func eachOnPaper(n int, text, pad []int, step func(n, sign, times int) int) []int {
	out := slices.Clone(text)
	for i := range out {
		out[i] = step(n, out[i], pad[i])
	}
	return out
}

func someSigns(r *rand.Rand, n, long int) []int {
	out := make([]int, long)
	for i := range out {
		out[i] = r.Intn(n)
	}
	return out
}

// set is l with another number at one place.
func set(l []int, at, v int) []int {
	out := slices.Clone(l)
	out[at] = v
	return out
}

// notKinds are numbers of signs that there cannot be.
func notKinds() []int {
	return []int{0, 1, -1, -2, -10, -64, 65, 66, 128, 256, 258, 1 << 32, 1<<32 + 10, -1 << 32, math.MaxInt, math.MinInt, math.MinInt + 1}
}

// notSigns are numbers that are no signs below n.
func notSigns(n int) []int {
	return []int{-1, -2, -n, n, n + 1, 2 * n, 64, 255, 256, 1 << 32, 1<<32 + 1, -1 << 32, math.MaxInt, math.MinInt, math.MinInt + 1}
}

func TestD1ByHand(t *testing.T) {
	for _, c := range []struct {
		n                       int
		text, pad, write, taken []int
	}{
		{10, []int{7}, []int{5}, []int{2}, []int{2}},
		{10, []int{5}, []int{7}, []int{2}, []int{8}},
		{10, []int{0, 0, 9, 9, 4}, []int{0, 9, 0, 9, 5}, []int{0, 9, 9, 8, 9}, []int{0, 1, 9, 0, 9}},
		{2, []int{0, 0, 1, 1}, []int{0, 1, 0, 1}, []int{0, 1, 1, 0}, []int{0, 1, 1, 0}},
		{3, []int{0, 1, 2, 2, 1}, []int{1, 1, 1, 2, 2}, []int{1, 2, 0, 1, 0}, []int{2, 0, 1, 0, 2}},
		{26, []int{25, 0, 13}, []int{1, 25, 13}, []int{0, 25, 0}, []int{24, 1, 0}},
		{64, []int{63, 0, 32, 1}, []int{63, 1, 32, 63}, []int{62, 1, 0, 0}, []int{0, 63, 0, 2}},
		// A pad may have more signs: they are not used.
		{10, []int{7, 1}, []int{5, 5, 9, 0}, []int{2, 6}, []int{2, 6}},
		{10, nil, []int{5, 5}, nil, nil},
	} {
		wantWrite(t, c.n, c.text, c.pad, c.write, api.OK)
		wantRead(t, c.n, c.text, c.pad, c.taken, api.OK)
	}
}

// Each sign by each sign of a pad, for all numbers of signs that there are.
func TestD1EachSignByEachSign(t *testing.T) {
	for n := 2; n <= 64; n++ {
		var text, pad []int
		for sign := range n {
			for key := range n {
				text, pad = append(text, sign), append(pad, key)
			}
		}
		wantWrite(t, n, text, pad, eachOnPaper(n, text, pad, onOnPaper), api.OK)
		wantRead(t, n, text, pad, eachOnPaper(n, text, pad, backOnPaper), api.OK)
	}
}

func TestD1WhatIsWrittenIsRead(t *testing.T) {
	r := rand.New(rand.NewSource(141))
	for range 2000 {
		n, long := 2+r.Intn(63), r.Intn(100)
		text, pad := someSigns(r, n, long), someSigns(r, n, long+r.Intn(5))
		hidden := eachOnPaper(n, text, pad, onOnPaper)
		wantWrite(t, n, text, pad, hidden, api.OK)
		wantRead(t, n, hidden, pad, text, api.OK)
		taken := eachOnPaper(n, text, pad, backOnPaper)
		wantRead(t, n, text, pad, taken, api.OK)
		wantWrite(t, n, taken, pad, text, api.OK)
	}
}

func TestD1HowManySigns(t *testing.T) {
	for n := -70; n < 200; n++ {
		want := api.OK
		if n < 2 || n > 64 {
			want = api.ErrKind
		}
		wantWrite(t, n, nil, nil, nil, want)
		wantRead(t, n, nil, nil, nil, want)
	}
}

func TestD1NoSuchKind(t *testing.T) {
	long := make([]int, api.MaxText+1)
	for _, n := range notKinds() {
		for _, text := range [][]int{nil, {}, {0}, {0, 0, 0}, {-1}, {math.MaxInt}, long} {
			for _, pad := range [][]int{nil, {0}, {0, 0}, {-1}, {1 << 40, 0, 0}} {
				wantNeither(t, n, text, pad, api.ErrKind)
			}
		}
	}
}

func TestD1NoSigns(t *testing.T) {
	for n := 2; n <= 64; n++ {
		for _, wrong := range notSigns(n) {
			if wrong >= 0 && wrong < n {
				continue
			}
			for at := range 3 {
				good := []int{n - 1, 0, 1}
				bad := set(good, at, wrong)
				wantNeither(t, n, bad, good, api.ErrRange)
				wantNeither(t, n, good, bad, api.ErrRange)
				wantNeither(t, n, bad, bad, api.ErrRange)
				// It is told ahead of a pad that is too short, and of signs of the pad that the text does not need too.
				wantNeither(t, n, bad, nil, api.ErrRange)
				wantNeither(t, n, good, []int{wrong}, api.ErrRange)
				wantNeither(t, n, nil, bad, api.ErrRange)
				wantNeither(t, n, good[:1], append(slices.Clone(good), wrong), api.ErrRange)
			}
		}
	}
}

func TestD1LongestTexts(t *testing.T) {
	r := rand.New(rand.NewSource(142))
	for _, n := range []int{2, 10, 64} {
		text, pad := someSigns(r, n, api.MaxText), someSigns(r, n, api.MaxText)
		for _, long := range []int{api.MaxText, api.MaxText - 1} {
			wantWrite(t, n, text[:long], pad, eachOnPaper(n, text[:long], pad, onOnPaper), api.OK)
			wantRead(t, n, text[:long], pad, eachOnPaper(n, text[:long], pad, backOnPaper), api.OK)
		}
		// A pad may be longer than any text.
		longer := append(slices.Clone(pad), pad...)
		wantWrite(t, n, text, longer, eachOnPaper(n, text, pad, onOnPaper), api.OK)
		wantRead(t, n, text[:1], longer, []int{backOnPaper(n, text[0], pad[0])}, api.OK)
		wantNeither(t, n, text, pad[:api.MaxText-1], api.ErrSpent)
	}
}

// ErrMany is told ahead of ErrSpent, and behind ErrRange.
func TestD1TextsThatAreTooLong(t *testing.T) {
	for _, n := range []int{2, 10, 64} {
		for _, long := range []int{api.MaxText + 1, api.MaxText + 2, 2 * api.MaxText} {
			text := make([]int, long)
			for _, pad := range []int{0, 1, api.MaxText, long - 1, long, long + 1} {
				wantNeither(t, n, text, make([]int, pad), api.ErrMany)
			}
			wantNeither(t, n, set(text, long-1, n), text, api.ErrRange)
			wantNeither(t, n, set(text, 0, -1), nil, api.ErrRange)
			wantNeither(t, n, text, []int{n}, api.ErrRange)
		}
	}
}

func TestD1PadsThatAreTooShort(t *testing.T) {
	for long := range 12 {
		for has := range 12 {
			text, pad := slices.Repeat([]int{3}, long), slices.Repeat([]int{4}, has)
			if has < long {
				wantNeither(t, 5, text, pad, api.ErrSpent)
				continue
			}
			wantWrite(t, 5, text, pad, slices.Repeat([]int{2}, long), api.OK)
			wantRead(t, 5, text, pad, slices.Repeat([]int{4}, long), api.OK)
		}
	}
}

// roomy has spare room behind its numbers, in which others stand.
func roomy(l []int) []int { return append(slices.Clone(l), 1, -1, 99, 0)[:len(l)] }

// spoil writes over a list, its spare room too.
func spoil(l []int) {
	l = l[:cap(l)]
	for i := range l {
		l[i] = 77
	}
}

// list is a call that answers one, of a list or of two.
type list func(n int, a, b []int) ([]int, api.Errno)

// lists are all calls that answer one, and of those that answer none what they say, as one.
func lists() map[string]list {
	return map[string]list{
		"Write":   Write,
		"Read":    Read,
		"Chances": func(n int, a, b []int) ([]int, api.Errno) { return Chances(n, a, len(b)) },
		"Secret": func(n int, a, b []int) ([]int, api.Errno) {
			yes, err := Secret(n, a)
			if yes {
				return []int{1}, err
			}
			return nil, err
		},
		"Split": func(n int, a, b []int) ([]int, api.Errno) { return Split(n, len(b), a) },
		"Join": func(n int, a, b []int) ([]int, api.Errno) {
			sum, err := Join(n, a)
			if err != api.OK {
				return nil, err
			}
			return []int{sum}, err
		},
	}
}

func TestE2PadOnlyReads(t *testing.T) {
	given := [][]int{nil, {1}, {2, 0, 1}, {1, 1, 1}, {0, 3}, {2, -1, 0}, make([]int, api.MaxShares-1), make([]int, api.MaxShares)}
	for name, call := range lists() {
		for _, n := range []int{0, 3, 64} {
			for _, a := range given {
				for _, b := range given {
					x, y := roomy(a), roomy(b)
					allX, allY := slices.Clone(x[:cap(x)]), slices.Clone(y[:cap(y)])
					got, err := call(n, x, y)
					if !slices.Equal(x[:cap(x)], allX) || !slices.Equal(y[:cap(y)], allY) {
						t.Errorf("%s: what was handed in has been changed: %d, %d", name, x[:cap(x)], y[:cap(y)])
					}
					spoil(x)
					spoil(y)
					again, againErr := call(n, a, b)
					wantSigns(t, name, n, a, b, got, err, again, againErr)
				}
			}
		}
	}
}

func TestE2PadAnswersAreNewEachTime(t *testing.T) {
	a, b := []int{2, 0, 1}, []int{1, 1, 0, 2}
	for name, call := range lists() {
		for _, long := range []int{0, 1, 3} {
			want, wantErr := call(3, slices.Clone(a[:long]), slices.Clone(b))
			want = slices.Clone(want)
			for range 3 {
				got, err := call(3, a[:long], b)
				wantSigns(t, name, 3, a[:long], b, got, err, want, wantErr)
				spoil(got)
			}
		}
	}
	if !slices.Equal(a, []int{2, 0, 1}) || !slices.Equal(b, []int{1, 1, 0, 2}) {
		t.Errorf("answers lie in what was handed in: %d, %d", a, b)
	}
}

// A text may be its own pad.
func TestE2OneListForBoth(t *testing.T) {
	l := []int{0, 1, 5, 9}
	wantWrite(t, 10, l, l, []int{0, 2, 0, 8}, api.OK)
	wantRead(t, 10, l, l, []int{0, 0, 0, 0}, api.OK)
	wantWrite(t, 10, l[:3], l[1:], []int{1, 6, 4}, api.OK)
	wantRead(t, 10, l[1:], l[:3], []int{1, 4, 4}, api.OK)
}

func TestE3ListsWithoutEntries(t *testing.T) {
	for _, none := range [][]int{nil, {}, make([]int, 0, 5)} {
		wantWrite(t, 10, none, none, nil, api.OK)
		wantRead(t, 10, none, none, nil, api.OK)
		wantNeither(t, 10, []int{1}, none, api.ErrSpent)
		wantChances(t, 10, none, 3, nil, api.ErrFit)
		wantSecret(t, 10, none, false, api.ErrFit)
		wantSplit(t, 10, 3, none, []int{3}, api.OK)
		wantJoin(t, 10, none, 0, api.ErrMany)
	}
}
