package rails

import (
	"math"
	"math/bits"
	"math/rand"
	"slices"
	"strings"
	"testing"

	"blackroom/api"
)

var notLong = []int{-1, api.MaxText + 1, 2 * api.MaxText, math.MinInt, math.MaxInt}

func wantOrder(t *testing.T, what string, got []int, err api.Errno, want []int, wantErr api.Errno) {
	t.Helper()
	if err != wantErr || !slices.Equal(got, want) || err != api.OK && got != nil {
		t.Errorf("%s = %d, %d; want %d, %d", what, head(got), err, head(want), wantErr)
	}
}

// head keeps what a test tells short.
func head(order []int) []int { return order[:min(len(order), 40)] }

func upTo(n int) []int {
	out := make([]int, n)
	for i := range out {
		out[i] = i
	}
	return out
}

// spread writes the letters on their rails one by one.
func spread(n, rails int) []int {
	rows := make([][]int, rails)
	y, step := 0, 1
	for i := range n {
		rows[y] = append(rows[y], i)
		if y+step < 0 || y+step >= rails {
			step = -step
		}
		if rails > 1 {
			y += step
		}
	}
	return slices.Concat(rows...)
}

func TestR1Rail(t *testing.T) {
	for _, c := range []struct {
		n, rails int
		want     []int
	}{
		{0, 1, nil},
		{0, 2, nil},
		{0, api.MaxRails, nil},
		{1, 1, []int{0}},
		{1, api.MaxRails, []int{0}},
		{5, 1, []int{0, 1, 2, 3, 4}},
		{5, 2, []int{0, 2, 4, 1, 3}},
		{5, 3, []int{0, 4, 1, 3, 2}},
		{5, 4, []int{0, 1, 2, 4, 3}},
		{5, 5, []int{0, 1, 2, 3, 4}},
		{6, 5, []int{0, 1, 2, 3, 5, 4}},
		{5, 6, []int{0, 1, 2, 3, 4}},
		{5, api.MaxRails, []int{0, 1, 2, 3, 4}},
		{12, 3, []int{0, 4, 8, 1, 3, 5, 7, 9, 11, 2, 6, 10}},
	} {
		got, err := Rail(c.n, c.rails)
		wantOrder(t, "Rail", got, err, c.want, api.OK)
	}
}

func TestR1RailAsItIsSpread(t *testing.T) {
	for rails := 1; rails <= api.MaxRails; rails++ {
		for n := range 4*api.MaxRails + 3 {
			got, err := Rail(n, rails)
			wantOrder(t, "Rail", got, err, spread(n, rails), api.OK)
		}
	}
	for _, rails := range []int{1, 2, 3, 7, 63, api.MaxRails} {
		for n := api.MaxText - 2; n <= api.MaxText; n++ {
			got, err := Rail(n, rails)
			wantOrder(t, "Rail", got, err, spread(n, rails), api.OK)
		}
	}
}

func TestR1RailOutOfBounds(t *testing.T) {
	for _, n := range notLong {
		for _, rails := range []int{1, 2, api.MaxRails, 0} {
			got, err := Rail(n, rails)
			wantOrder(t, "Rail", got, err, nil, api.ErrRange)
		}
	}
	for _, rails := range []int{0, -1, api.MaxRails + 1, 1000, math.MinInt, math.MaxInt} {
		for _, n := range []int{0, 1, 5, api.MaxText} {
			got, err := Rail(n, rails)
			wantOrder(t, "Rail", got, err, nil, api.ErrRange)
		}
	}
}

// under writes the letters in rows, and looks for the columns letter by letter.
func under(n int, key string) []int {
	var out []int
	for c := byte('A'); c <= 'Z'; c++ {
		for x := range len(key) {
			if key[x] != c {
				continue
			}
			for i := x; i < n; i += len(key) {
				out = append(out, i)
			}
		}
	}
	return out
}

func TestR1Columns(t *testing.T) {
	for _, c := range []struct {
		n    int
		key  string
		want []int
	}{
		{0, "A", nil},
		{0, "ZEBRAS", nil},
		{1, "Z", []int{0}},
		{4, "Q", []int{0, 1, 2, 3}},
		{6, "BA", []int{1, 3, 5, 0, 2, 4}},
		{5, "BA", []int{1, 3, 0, 2, 4}},
		{1, "BA", []int{0}},
		{5, "AA", []int{0, 2, 4, 1, 3}},
		{7, "BABA", []int{1, 5, 3, 0, 4, 2, 6}},
		{3, "ZEBRAS", []int{2, 1, 0}},
		{13, "ZEBRAS", []int{4, 10, 2, 8, 1, 7, 3, 9, 5, 11, 0, 6, 12}},
		{6, "CAB", []int{1, 4, 2, 5, 0, 3}},
		{6, "BCA", []int{2, 5, 0, 3, 1, 4}},
	} {
		got, err := Columns(c.n, c.key)
		wantOrder(t, "Columns under "+c.key, got, err, c.want, api.OK)
	}
}

func TestR1ColumnsAsTheyStand(t *testing.T) {
	r := rand.New(rand.NewSource(4))
	keys := []string{
		"ABCDEFGHIJKLMNOPQRSTUVWXYZ",
		"ZYXWVUTSRQPONMLKJIHGFEDCBA",
		strings.Repeat("A", api.MaxKey),
		strings.Repeat("ZA", api.MaxKey/2),
	}
	for long := 1; long <= api.MaxKey; long += 1 + long/9 {
		keys = append(keys, someText(r, long, api.Letters), someText(r, long, 3))
	}
	keys = append(keys, someText(r, api.MaxKey, api.Letters))
	for _, key := range keys {
		long := len(key)
		for _, n := range []int{0, 1, long - 1, long, long + 1, 2*long - 1, 2 * long, 7*long + long/2, 1000, api.MaxText} {
			got, err := Columns(n, key)
			wantOrder(t, "Columns under "+key, got, err, under(n, key), api.OK)
		}
	}
}

// someText has letters out of the first ones alone, so that they come again.
func someText(r *rand.Rand, long, first int) string {
	out := make([]byte, long)
	for i := range out {
		out[i] = 'A' + byte(r.Intn(first))
	}
	return string(out)
}

func TestR1ColumnsThatAreWrong(t *testing.T) {
	for _, c := range []struct {
		what string
		key  string
		want api.Errno
	}{
		{"none", "", api.ErrMany},
		{"one too many", strings.Repeat("A", api.MaxKey+1), api.ErrMany},
		{"as many as a text has", strings.Repeat("A", api.MaxText), api.ErrMany},
		{"more than a text has", strings.Repeat("A", api.MaxText+1), api.ErrMuch},
		{"more than a text has, and no letters", strings.Repeat("a", api.MaxText+1), api.ErrMuch},
		{"a small letter", "a", api.ErrForm},
		{"a small letter behind", "KEy", api.ErrForm},
		{"a space", "K EY", api.ErrForm},
		{"ahead of A", "@", api.ErrForm},
		{"behind Z", "[", api.ErrForm},
		{"a nought byte", "\x00", api.ErrForm},
		{"a byte that begins no rune", "\xff", api.ErrForm},
		{"too many, and no letter at its end", strings.Repeat("A", api.MaxKey) + "1", api.ErrForm},
	} {
		for _, n := range []int{0, 1, 15, api.MaxText} {
			got, err := Columns(n, c.key)
			wantOrder(t, c.what+": Columns", got, err, nil, c.want)
		}
		for _, n := range notLong {
			got, err := Columns(n, c.key)
			wantOrder(t, c.what+", n too: Columns", got, err, nil, api.ErrRange)
		}
	}
	for _, n := range notLong {
		got, err := Columns(n, "KEY")
		wantOrder(t, "Columns", got, err, nil, api.ErrRange)
	}
}

// sheet is what is seen through a sheet that is cut and turned as one of paper is; nil, if that isn't each letter, and just once.
func sheet(side int, holes []int) []int {
	cut := make([][]int, side)
	for y := range cut {
		cut[y] = make([]int, side)
	}
	for _, h := range holes {
		cut[h/side][h%side]++
	}
	var seen []int
	for range 4 {
		next := make([][]int, side)
		for y := range next {
			next[y] = make([]int, side)
		}
		for y := range side {
			for x := range side {
				for range cut[y][x] {
					seen = append(seen, y*side+x)
				}
				next[x][side-1-y] = cut[y][x]
			}
		}
		cut = next
	}
	if !slices.Equal(slices.Sorted(slices.Values(seen)), upTo(side*side)) {
		return nil
	}
	return seen
}

func wantSheet(t *testing.T, side int, holes []int) {
	t.Helper()
	got, err := Grille(side, holes)
	if want := sheet(side, holes); want != nil {
		wantOrder(t, "Grille", got, err, want, api.OK)
	} else {
		wantOrder(t, "Grille", got, err, nil, api.ErrFit)
	}
}

func TestR2Grille(t *testing.T) {
	for _, c := range []struct {
		side  int
		holes []int
		want  []int
	}{
		{2, []int{0}, []int{0, 1, 3, 2}},
		{2, []int{1}, []int{1, 3, 2, 0}},
		{2, []int{2}, []int{2, 0, 1, 3}},
		{2, []int{3}, []int{3, 2, 0, 1}},
		{4, []int{0, 1, 4, 5}, []int{0, 1, 4, 5, 2, 3, 6, 7, 10, 11, 14, 15, 8, 9, 12, 13}},
		{4, []int{5, 4, 1, 0}, []int{0, 1, 4, 5, 2, 3, 6, 7, 10, 11, 14, 15, 8, 9, 12, 13}},
		{4, []int{0, 1, 2, 5}, []int{0, 1, 2, 5, 3, 6, 7, 11, 10, 13, 14, 15, 4, 8, 9, 12}},
	} {
		got, err := Grille(c.side, c.holes)
		wantOrder(t, "Grille", got, err, c.want, api.OK)
	}
}

func TestR2GrilleThatDoesNotFit(t *testing.T) {
	for _, c := range []struct {
		what  string
		side  int
		holes []int
	}{
		{"no holes", 2, nil},
		{"no holes, empty", 2, []int{}},
		{"no holes, wide", api.MaxGrille, nil},
		{"told twice", 2, []int{0, 0}},
		{"told four times", 2, []int{3, 3, 3, 3}},
		{"seen twice", 2, []int{0, 1}},
		{"all are holes", 2, []int{0, 1, 2, 3}},
		{"too few", 4, []int{0, 1, 4}},
		{"one more that is told twice", 4, []int{0, 1, 4, 5, 5}},
		{"one more that is seen twice", 4, []int{0, 1, 4, 5, 15}},
		{"as many, one told twice", 4, []int{0, 1, 4, 4}},
		{"as many, one seen twice and one not at all", 4, []int{0, 1, 2, 4}},
		{"as many, seen twice half round", 4, []int{0, 15, 1, 5}},
		{"very many", 4, slices.Repeat([]int{0, 1, 4, 5}, 1000)},
	} {
		got, err := Grille(c.side, c.holes)
		wantOrder(t, c.what+": Grille", got, err, nil, api.ErrFit)
	}
}

func TestR2GrilleOutOfBounds(t *testing.T) {
	for _, side := range []int{math.MinInt, -4, -2, -1, 0, 1, 3, 5, 15, 17, 18, 32, 1 << 32, math.MaxInt, math.MaxInt - 1} {
		for _, holes := range [][]int{nil, {}, {0}, {-1}, {0, 0}, {0, 1, 4, 5}} {
			got, err := Grille(side, holes)
			wantOrder(t, "Grille", got, err, nil, api.ErrRange)
		}
	}
	for side := 2; side <= api.MaxGrille; side += 2 {
		for _, bad := range []int{-1, side * side, side*side + 1, -side, math.MinInt, math.MaxInt} {
			// A hole out of its bounds is told ahead of holes that don't fit, wherever it stands.
			for _, holes := range [][]int{{bad}, {0, bad}, {bad, 0}, {0, 0, bad}, {0, 1, 0, bad, 0}} {
				got, err := Grille(side, holes)
				wantOrder(t, "Grille", got, err, nil, api.ErrRange)
			}
		}
	}
}

func TestR2GrilleAllSheetsOfTwoAndFour(t *testing.T) {
	right := 0
	for _, side := range []int{2, 4} {
		for set := range uint(1) << (side * side) {
			if side == 4 && bits.OnesCount(set) > 5 {
				continue
			}
			var holes []int
			for i := range side * side {
				if set>>i&1 == 1 {
					holes = append(holes, i)
				}
			}
			wantSheet(t, side, holes)
			if sheet(side, holes) != nil {
				right++
			}
		}
	}
	if right != 4+256 {
		t.Errorf("%d sheets are right; want one hole of each four places", right)
	}
}

func TestR2GrilleOfEverySide(t *testing.T) {
	r := rand.New(rand.NewSource(16))
	for side := 2; side <= api.MaxGrille; side += 2 {
		for range 50 {
			holes := someSheet(r, side)
			if sheet(side, holes) == nil {
				t.Fatalf("side %d: this sheet isn't right: %d", side, holes)
			}
			wantSheet(t, side, holes)
			wantSheet(t, side, holes[1:])
			holes[0] = r.Intn(side * side)
			wantSheet(t, side, holes)
		}
	}
}

// someSheet takes one of each four places, in no order.
func someSheet(r *rand.Rand, side int) []int {
	var out []int
	for y := range side / 2 {
		for x := range side / 2 {
			a, b := y, x
			for range r.Intn(4) {
				a, b = b, side-1-a
			}
			out = append(out, a*side+b)
		}
	}
	r.Shuffle(len(out), func(i, k int) { out[i], out[k] = out[k], out[i] })
	return out
}

func TestE2OrdersAreNew(t *testing.T) {
	makers := map[string]func() ([]int, api.Errno){
		"Rail":    func() ([]int, api.Errno) { return Rail(9, 3) },
		"Columns": func() ([]int, api.Errno) { return Columns(9, "ZEBRAS") },
		"Grille":  func() ([]int, api.Errno) { return Grille(4, []int{0, 1, 4, 5}) },
	}
	for name, order := range makers {
		first, _ := order()
		want := slices.Clone(first)
		clear(first[:cap(first)])
		got, err := order()
		wantOrder(t, name, got, err, want, api.OK)
	}
}

func TestE2HolesAreOnlyRead(t *testing.T) {
	for _, holes := range [][]int{{5, 4, 1, 0}, {5, 4, 1, 1}, {5, 4, 16, 1}} {
		room := append(slices.Clone(holes), -7, 99, 3)
		want := slices.Clone(room)
		first, err := Grille(4, holes)
		again, errAgain := Grille(4, room[:len(holes)])
		wantOrder(t, "Grille", again, errAgain, first, err)
		if !slices.Equal(room, want) {
			t.Errorf("holes became %d; they were %d", room, want)
		}
	}
	holes := []int{0, 1, 4, 5}
	got, _ := Grille(4, holes)
	want := slices.Clone(got)
	clear(holes)
	if !slices.Equal(got, want) {
		t.Error("what Grille answered changes with the holes")
	}
}
