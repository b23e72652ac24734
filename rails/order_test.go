package rails

import (
	"math"
	"math/rand"
	"slices"
	"strings"
	"testing"

	"blackroom/api"
)

func set(order []int, at, v int) []int {
	out := slices.Clone(order)
	out[at] = v
	return out
}

var wrongOnes = []struct {
	what  string
	order []int
	want  api.Errno
}{
	{"one too many", upTo(api.MaxText + 1), api.ErrMany},
	{"one too many, all noughts", make([]int, api.MaxText+1), api.ErrMany},
	{"one too many, out of bounds", slices.Repeat([]int{-1}, api.MaxText+1), api.ErrMany},
	{"1 alone", []int{1}, api.ErrRange},
	{"-1 alone", []int{-1}, api.ErrRange},
	{"from 1 on", []int{1, 2, 3}, api.ErrRange},
	{"too great at the end", []int{0, 1, 3}, api.ErrRange},
	{"too small at the end", []int{2, 1, -1}, api.ErrRange},
	{"the least int", []int{0, math.MinInt}, api.ErrRange},
	{"the greatest int", []int{0, math.MaxInt}, api.ErrRange},
	{"0 again", []int{0, 0}, api.ErrFit},
	{"1 again", []int{1, 1}, api.ErrFit},
	{"the first again at the end", []int{3, 1, 2, 3}, api.ErrFit},
	{"again, then out of bounds", []int{1, 1, 3}, api.ErrFit},
	{"again, then too small", []int{0, 0, -1, 1}, api.ErrFit},
	{"out of bounds, then again", []int{3, 1, 1}, api.ErrRange},
	{"too small, then again", []int{0, -1, 0}, api.ErrRange},
	{"out of bounds again and again", []int{9, 9}, api.ErrRange},
	{"MaxText, the last too great", set(upTo(api.MaxText), api.MaxText-1, api.MaxText), api.ErrRange},
	{"MaxText, the last there already", set(upTo(api.MaxText), api.MaxText-1, 0), api.ErrFit},
	{"MaxText noughts", make([]int, api.MaxText), api.ErrFit},
}

// someOrders are right ones, the same every time.
func someOrders() [][]int {
	r := rand.New(rand.NewSource(3))
	out := [][]int{nil, {}, {0}, {0, 1}, {1, 0}, {2, 0, 1, 3}, upTo(api.MaxText), r.Perm(api.MaxText)}
	for n := range 60 {
		out = append(out, r.Perm(n))
	}
	return out
}

func TestR3Wrong(t *testing.T) {
	for _, c := range wrongOnes {
		if got := Wrong(c.order); got != c.want {
			t.Errorf("%s: Wrong = %d; want %d", c.what, got, c.want)
		}
	}
	for _, order := range someOrders() {
		if got := Wrong(order); got != api.OK {
			t.Errorf("%d is right; Wrong = %d", head(order), got)
		}
	}
}

func TestR3WrongAnywhere(t *testing.T) {
	for n := 1; n <= 12; n++ {
		for at := range n {
			for _, v := range []int{-1, n, n + 1, math.MinInt, math.MaxInt} {
				if got := Wrong(set(upTo(n), at, v)); got != api.ErrRange {
					t.Errorf("%d at %d of %d: Wrong = %d", v, at, n, got)
				}
			}
			for v := range n {
				if got := Wrong(set(upTo(n), at, v)); v != at && got != api.ErrFit {
					t.Errorf("%d at %d of %d: Wrong = %d", v, at, n, got)
				}
			}
		}
	}
}

func TestR3WhatIsWrongIsToldByAll(t *testing.T) {
	for _, c := range wrongOnes {
		n := len(c.order)
		for _, text := range []string{"", "A", "a", strings.Repeat("A", n), strings.Repeat("A", api.MaxText+1)} {
			got, err := Write(c.order, text)
			wantText(t, c.what+": Write", got, err, "", c.want)
			got, err = Read(c.order, text)
			wantText(t, c.what+": Read", got, err, "", c.want)
		}
		if got, err := Period(c.order); got != 0 || err != c.want {
			t.Errorf("%s: Period = %d, %d; want 0, %d", c.what, got, err, c.want)
		}
	}
}

func wantText(t *testing.T, what, got string, err api.Errno, want string, wantErr api.Errno) {
	t.Helper()
	if got != want || err != wantErr {
		t.Errorf("%s = %.40q, %d; want %.40q, %d", what, got, err, want, wantErr)
	}
}

func TestR3WriteAndRead(t *testing.T) {
	for _, c := range []struct {
		order       []int
		text, wrote string
	}{
		{nil, "", ""},
		{[]int{}, "", ""},
		{[]int{0}, "Z", "Z"},
		{[]int{1, 0}, "AB", "BA"},
		{[]int{0, 2, 4, 1, 3}, "ABCDE", "ACEBD"},
		{[]int{2, 0, 1, 3}, "ABCD", "CABD"},
		{[]int{1, 2, 3, 4, 0}, "AZAZB", "ZAZBA"},
		{upTo(6), "LETTER", "LETTER"},
	} {
		got, err := Write(c.order, c.text)
		wantText(t, "Write", got, err, c.wrote, api.OK)
		got, err = Read(c.order, c.wrote)
		wantText(t, "Read", got, err, c.text, api.OK)
	}
}

func TestR3WhatWriteMakesIsRead(t *testing.T) {
	r := rand.New(rand.NewSource(26))
	for _, order := range someOrders() {
		text := someText(r, len(order), api.Letters)
		hidden, err := Write(order, text)
		if err != api.OK || len(hidden) != len(text) {
			t.Errorf("Write makes %d letters of %d, %d", len(hidden), len(text), err)
			continue
		}
		for i, place := range order {
			if hidden[i] != text[place] {
				t.Errorf("Write puts %q at %d; want %q", hidden[i], i, text[place])
				break
			}
		}
		got, err := Read(order, hidden)
		wantText(t, "Read", got, err, text, api.OK)
		got, err = Read(order, text)
		if err != api.OK {
			t.Errorf("Read tells %d", err)
		}
		got, err = Write(order, got)
		wantText(t, "Write of what is read", got, err, text, api.OK)
	}
}

func TestR3OrdersThatAreMadeAreRead(t *testing.T) {
	text := "WEAREDISCOVEREDX"
	rail, _ := Rail(len(text), 3)
	columns, _ := Columns(len(text), "ZEBRAS")
	grille, _ := Grille(4, []int{0, 1, 4, 5})
	for i, want := range []string{"WECRERDSOEEXAIVD", "EVACDESEROXDEWIR", "WEEDARISVEDXCORE"} {
		order := [][]int{rail, columns, grille}[i]
		got, err := Write(order, text)
		wantText(t, "Write", got, err, want, api.OK)
		got, err = Read(order, want)
		wantText(t, "Read", got, err, text, api.OK)
	}
}

func TestR3TextsThatAreWrong(t *testing.T) {
	much := strings.Repeat("A", api.MaxText)
	for _, c := range []struct {
		what, text string
		n          int
		want       api.Errno
	}{
		{"too short", "AB", 3, api.ErrFit},
		{"too long", "ABCD", 3, api.ErrFit},
		{"none", "", 1, api.ErrFit},
		{"letters, and no order", "A", 0, api.ErrFit},
		{"MaxText letters", much, 3, api.ErrFit},
		{"MaxText letters but one", much[1:], api.MaxText, api.ErrFit},
		{"one too many", much + "A", api.MaxText, api.ErrMuch},
		{"one too many, and no letters", strings.Repeat("a", api.MaxText+1), 2, api.ErrMuch},
		{"small letters", "abc", 3, api.ErrForm},
		{"a small letter at the end", "ABc", 3, api.ErrForm},
		{"no letters, and too short", "A ", 3, api.ErrForm},
		{"no letters, and too long", "ABCD.", 3, api.ErrForm},
		{"no letters, and no order", "1", 0, api.ErrForm},
		{"a rune of two bytes", "Ä", 2, api.ErrForm},
		{"a byte that begins no rune", "\xff", 1, api.ErrForm},
	} {
		got, err := Write(upTo(c.n), c.text)
		wantText(t, c.what+": Write", got, err, "", c.want)
		got, err = Read(upTo(c.n), c.text)
		wantText(t, c.what+": Read", got, err, "", c.want)
	}
}

// rounds is an order that goes round in so many places, one behind the other.
func rounds(long ...int) []int {
	var out []int
	for _, n := range long {
		at := len(out)
		for i := range n {
			out = append(out, at+(i+1)%n)
		}
	}
	return out
}

func TestR4Period(t *testing.T) {
	for _, c := range []struct {
		what  string
		order []int
		want  int
	}{
		{"none", nil, 1},
		{"none, empty", []int{}, 1},
		{"one", []int{0}, 1},
		{"two that stay", []int{0, 1}, 1},
		{"two that change", []int{1, 0}, 2},
		{"MaxText that stay", upTo(api.MaxText), 1},
		{"one round of MaxText", rounds(api.MaxText), api.MaxText},
		{"3 and 1", []int{2, 0, 1, 3}, 3},
		{"2 and 3", rounds(2, 3), 6},
		{"4 and 6", rounds(4, 6), 12},
		{"6 and 4", rounds(6, 4), 12},
		{"12, 18 and 8", rounds(12, 18, 8), 72},
		{"1, 7, 1, 7", rounds(1, 7, 1, 7), 7},
		{"the greatest that is not above MaxPeriod", rounds(3, 25, 11, 17, 31, 41, 61681), api.MaxPeriod - 1},
		{"the same, the greatest round first", rounds(61681, 41, 31, 17, 11, 25, 3, 33, 1), api.MaxPeriod - 1},
	} {
		if got, err := Period(c.order); got != c.want || err != api.OK {
			t.Errorf("%s: Period = %d, %d; want %d", c.what, got, err, c.want)
		}
	}
}

func TestR4PeriodAboveMaxPeriod(t *testing.T) {
	for _, long := range [][]int{
		{16, 17, 241, 433, 38737}, // 16 above it
		{38737, 433, 241, 17, 16},
		{2, 31, 853, 3391, 6131}, // 30 above it
		{3, 25, 11, 17, 31, 41, 61681, 2},
		{2, 3, 5, 7, 11, 13, 17, 19, 23, 29, 31, 37, 41},
		// Here the whole has so many times the digits of an int that it may come out as anything.
		{2, 4, 8, 16, 32, 64, 128, 256, 512, 1024, 2048, 4096, 8192, 3, 9, 27, 81, 243, 729, 2187, 5, 25, 125, 625, 3125, 7, 49, 343, 2401, 11, 121, 1331, 13, 169, 2197, 17, 289, 4913, 19, 361, 23, 529},
		{4093, 4096, 4095, 4091, 4097, 4099},
	} {
		if got, err := Period(rounds(long...)); got != 0 || err != api.ErrMuch {
			t.Errorf("rounds of %d: Period = %d, %d; want 0, %d", long, got, err, api.ErrMuch)
		}
	}
}

func TestR4PeriodAsItIsTried(t *testing.T) {
	for _, order := range someOrders() {
		want, err := Period(order)
		if err != api.OK || want > 1000 || len(order) > 100 {
			continue
		}
		at := upTo(len(order))
		for times := 1; times <= want; times++ {
			for i := range at {
				at[i] = order[at[i]]
			}
			if stands := slices.Equal(at, upTo(len(order))); stands != (times == want) {
				t.Errorf("%d: after %d times of %d, stands = %v", order, times, want, stands)
			}
		}
	}
}

func TestE2OrderIsOnlyRead(t *testing.T) {
	for _, order := range [][]int{{2, 0, 1, 3}, {2, 0, 0, 3}, {2, 0, 4, 3}} {
		room := append(slices.Clone(order), 4, -9, 0)
		want := slices.Clone(room)
		short := room[:len(order)]
		if got := Wrong(short); got != Wrong(order) {
			t.Errorf("Wrong = %d with room behind", got)
		}
		wrote, err := Write(order, "ABCD")
		got, errAgain := Write(short, "ABCD")
		wantText(t, "Write", got, errAgain, wrote, err)
		read, err := Read(order, "ABCD")
		got, errAgain = Read(short, "ABCD")
		wantText(t, "Read", got, errAgain, read, err)
		period, err := Period(order)
		if p, e := Period(short); p != period || e != err {
			t.Errorf("Period = %d, %d with room behind; want %d, %d", p, e, period, err)
		}
		if !slices.Equal(room, want) {
			t.Errorf("the order became %d; it was %d", room, want)
		}
	}
}
