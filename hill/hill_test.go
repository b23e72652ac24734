package hill

import (
	"math"
	"math/rand"
	"reflect"
	"slices"
	"testing"

	"blackroom/api"
)

var outside = []int{-1, api.Letters, api.Letters + 1, -api.Letters, math.MinInt, math.MaxInt}

// filledWith is a matrix of n rows that has v everywhere.
func filledWith(n, v int) [][]int {
	out := make([][]int, n)
	for y := range out {
		out[y] = slices.Repeat([]int{v}, n)
	}
	return out
}

func one(n int) [][]int {
	out := filledWith(n, 0)
	for y := range out {
		out[y][y] = 1
	}
	return out
}

// some are matrices of n rows, the same ones every time.
func some(n, many int) [][][]int {
	r := rand.New(rand.NewSource(int64(n)))
	out := make([][][]int, many)
	for i := range out {
		out[i] = filledWith(n, 0)
		for y := range n {
			for x := range n {
				out[i][y][x] = r.Intn(api.Letters)
			}
		}
	}
	return out
}

// orders are all ways to set up 0 to n - 1, each with its sign.
func orders(n int, tell func(order []int, sign int)) {
	order := make([]int, n)
	for i := range order {
		order[i] = i
	}
	var from func(i, sign int)
	from = func(i, sign int) {
		if i == n {
			tell(order, sign)
			return
		}
		for k := i; k < n; k++ {
			s := sign
			if k != i {
				s = -sign
			}
			order[i], order[k] = order[k], order[i]
			from(i+1, s)
			order[i], order[k] = order[k], order[i]
		}
	}
	from(0, 1)
}

// detByOrders is the determinant by its other rule: a product for each way to take one number of every row and every place.
func detByOrders(m [][]int) int {
	sum := 0
	orders(len(m), func(order []int, sign int) {
		p := sign
		for y, x := range order {
			p *= m[y][x]
		}
		sum += p
	})
	return (sum%api.Letters + api.Letters) % api.Letters
}

func wantMatrix(t *testing.T, what string, got [][]int, err api.Errno, want [][]int, wantErr api.Errno) {
	t.Helper()
	if len(want) == 0 && (got != nil || err != wantErr) || len(want) > 0 && (!reflect.DeepEqual(got, want) || err != wantErr) {
		t.Errorf("%s = %v, %d; want %v, %d", what, got, err, want, wantErr)
	}
}

// wrongOnes are what Wrong must tell something of.
var wrongOnes = []struct {
	what string
	m    [][]int
	want api.Errno
}{
	{"nil", nil, api.ErrMany},
	{"no rows", [][]int{}, api.ErrMany},
	{"one row too many", one(api.MaxHill + 1), api.ErrMany},
	{"many rows too many", make([][]int, 1000), api.ErrMany},
	{"too many rows, and wrong ones", append(filledWith(api.MaxHill, -1), []int{1}), api.ErrMany},
	{"a row without numbers", [][]int{{}}, api.ErrFit},
	{"a nil row", [][]int{nil}, api.ErrFit},
	{"one row, too long", [][]int{{1, 2}}, api.ErrFit},
	{"the first row too short", [][]int{{1}, {2, 3}}, api.ErrFit},
	{"the first row too long", [][]int{{1, 2, 3}, {2, 3}}, api.ErrFit},
	{"the last row too short", [][]int{{1, 2}, {3}}, api.ErrFit},
	{"the last row too long", [][]int{{1, 2}, {3, 4, 5}}, api.ErrFit},
	{"as many numbers in all as there must be", [][]int{{1, 2, 3}, {4}}, api.ErrFit},
	{"rows of one length, and more of them", [][]int{{1, 2}, {3, 4}, {5, 6}}, api.ErrFit},
	{"26", [][]int{{26}}, api.ErrRange},
	{"-1", [][]int{{-1}}, api.ErrRange},
	{"a row that is too short and has 26", [][]int{{26}, {1, 2}}, api.ErrFit},
	{"a row that is too long and has 26", [][]int{{1, 2, 26}, {1, 2}}, api.ErrFit},
	{"26 in a row ahead of one that is too short", [][]int{{1, 26}, {1}}, api.ErrRange},
	{"-1 in a row ahead of one that is too long", [][]int{{-1, 1}, {1, 2, 3}}, api.ErrRange},
	{"a row that is too short ahead of one with 26", [][]int{{1}, {1, 26}}, api.ErrFit},
	{"the middle row too short ahead of one with 26", [][]int{{1, 2, 3}, {1, 2}, {1, 2, 26}}, api.ErrFit},
	{"26 in the middle row ahead of one that is too short", [][]int{{1, 2, 3}, {1, 26, 2}, {1, 2}}, api.ErrRange},
}

func TestH1Wrong(t *testing.T) {
	for _, c := range wrongOnes {
		if got := Wrong(c.m); got != c.want {
			t.Errorf("%s: Wrong = %d; want %d", c.what, got, c.want)
		}
	}
}

func TestH1WrongNumbersAnywhere(t *testing.T) {
	for n := 1; n <= api.MaxHill; n++ {
		for y := range n {
			for x := range n {
				for _, v := range outside {
					m := one(n)
					m[y][x] = v
					if got := Wrong(m); got != api.ErrRange {
						t.Errorf("%d in row %d at %d of %d rows: Wrong = %d", v, y, x, n, got)
					}
				}
			}
		}
	}
}

func TestH1RightOnes(t *testing.T) {
	for n := 1; n <= api.MaxHill; n++ {
		for v := range api.Letters {
			if got := Wrong(filledWith(n, v)); got != api.OK {
				t.Errorf("%d rows of %d: Wrong = %d", n, v, got)
			}
		}
	}
}

func TestH1WhatIsWrongIsToldByAll(t *testing.T) {
	for _, c := range wrongOnes {
		if d, err := Det(c.m); d != 0 || err != c.want {
			t.Errorf("%s: Det = %d, %d; want 0, %d", c.what, d, err, c.want)
		}
		got, err := Inverse(c.m)
		wantMatrix(t, c.what+": Inverse", got, err, nil, c.want)
		got, err = Product(c.m, one(2))
		wantMatrix(t, c.what+": Product ahead", got, err, nil, c.want)
		got, err = Product(one(2), c.m)
		wantMatrix(t, c.what+": Product behind", got, err, nil, c.want)
		for _, d := range wrongOnes {
			got, err = Product(c.m, d.m)
			wantMatrix(t, c.what+" and "+d.what+": Product", got, err, nil, c.want)
		}
	}
}

func TestH1Det(t *testing.T) {
	for _, c := range []struct {
		m    [][]int
		want int
	}{
		{[][]int{{3, 3}, {2, 5}}, 9},
		{[][]int{{0}}, 0},
		{[][]int{{25}}, 25},
		{[][]int{{0, 1}, {1, 0}}, 25},
		{[][]int{{2, 4}, {1, 2}}, 0},
		{[][]int{{13, 0}, {0, 2}}, 0},
		{[][]int{{6, 24, 1}, {13, 16, 10}, {20, 17, 15}}, 25},
		{[][]int{{0, 1, 0}, {0, 0, 1}, {1, 0, 0}}, 1},
		{[][]int{{0, 0, 0, 1}, {1, 0, 0, 0}, {0, 1, 0, 0}, {0, 0, 1, 0}}, 25},
		{[][]int{{1, 2, 3, 4}, {0, 1, 5, 6}, {0, 0, 1, 7}, {0, 0, 0, 1}}, 1},
		{filledWith(4, 25), 0},
	} {
		if got, err := Det(c.m); got != c.want || err != api.OK {
			t.Errorf("Det(%v) = %d, %d; want %d", c.m, got, err, c.want)
		}
	}
}

func TestH1DetByItsOtherRule(t *testing.T) {
	for n := 1; n <= api.MaxHill; n++ {
		for _, m := range some(n, 500) {
			if got, err := Det(m); got != detByOrders(m) || err != api.OK {
				t.Errorf("Det(%v) = %d, %d; want %d", m, got, err, detByOrders(m))
			}
		}
	}
}

func TestH1Product(t *testing.T) {
	a, b := [][]int{{3, 3}, {2, 5}}, [][]int{{1, 2}, {0, 25}}
	got, err := Product(a, b)
	wantMatrix(t, "Product(a, b)", got, err, [][]int{{3, 3}, {2, 25}}, api.OK)
	got, err = Product(b, a)
	wantMatrix(t, "Product(b, a)", got, err, [][]int{{7, 13}, {24, 21}}, api.OK)
	got, err = Product([][]int{{7}}, [][]int{{15}})
	wantMatrix(t, "Product of one row", got, err, [][]int{{1}}, api.OK)
	got, err = Product(filledWith(4, 25), filledWith(4, 25))
	wantMatrix(t, "Product of the greatest", got, err, filledWith(4, 4), api.OK)
}

func TestH1ProductPlaceByPlace(t *testing.T) {
	for n := 1; n <= api.MaxHill; n++ {
		all := some(n, 40)
		for i, a := range all {
			b := all[len(all)-1-i]
			want := filledWith(n, 0)
			for y := range n {
				for x := range n {
					for k := range n {
						want[y][x] = (want[y][x] + a[y][k]*b[k][x]) % api.Letters
					}
				}
			}
			got, err := Product(a, b)
			wantMatrix(t, "Product", got, err, want, api.OK)
		}
	}
}

func TestH1ProductOfUnlikeSizes(t *testing.T) {
	for a := 1; a <= api.MaxHill; a++ {
		for b := 1; b <= api.MaxHill; b++ {
			want, wantErr := one(a), api.OK
			if a != b {
				want, wantErr = nil, api.ErrFit
			}
			got, err := Product(one(a), one(b))
			wantMatrix(t, "Product", got, err, want, wantErr)
		}
	}
	got, err := Product(one(3), [][]int{{1, 2}, {3, 26}})
	wantMatrix(t, "Product of unlike sizes, the second wrong", got, err, nil, api.ErrRange)
}

func TestH1InverseOfOneRow(t *testing.T) {
	back := map[int]int{1: 1, 3: 9, 5: 21, 7: 15, 9: 3, 11: 19, 15: 7, 17: 23, 19: 11, 21: 5, 23: 17, 25: 25}
	for v := range api.Letters {
		want, wantErr := [][]int(nil), api.ErrNone
		if b, ok := back[v]; ok {
			want, wantErr = [][]int{{b}}, api.OK
		}
		got, err := Inverse([][]int{{v}})
		wantMatrix(t, "Inverse of one number", got, err, want, wantErr)
	}
}

func TestH1Inverse(t *testing.T) {
	got, err := Inverse([][]int{{3, 3}, {2, 5}})
	wantMatrix(t, "Inverse", got, err, [][]int{{15, 17}, {20, 9}}, api.OK)
	got, err = Inverse([][]int{{6, 24, 1}, {13, 16, 10}, {20, 17, 15}})
	wantMatrix(t, "Inverse", got, err, [][]int{{8, 5, 10}, {21, 8, 21}, {21, 12, 8}}, api.OK)
	got, err = Inverse([][]int{{2, 4}, {1, 2}})
	wantMatrix(t, "Inverse of determinant 0", got, err, nil, api.ErrNone)
	got, err = Inverse([][]int{{13, 0}, {0, 1}})
	wantMatrix(t, "Inverse of determinant 13", got, err, nil, api.ErrNone)
	got, err = Inverse([][]int{{2, 0}, {0, 1}})
	wantMatrix(t, "Inverse of determinant 2", got, err, nil, api.ErrNone)
}

// A matrix can be undone just if its determinant has no divisor with 26, and then either way round.
func TestH1InverseEitherWayRound(t *testing.T) {
	for n := 1; n <= api.MaxHill; n++ {
		found := 0
		for _, m := range some(n, 400) {
			got, err := Inverse(m)
			d := detByOrders(m)
			if d%2 == 0 || d%13 == 0 {
				wantMatrix(t, "Inverse of what has none", got, err, nil, api.ErrNone)
				continue
			}
			found++
			if err != api.OK || Wrong(got) != api.OK {
				t.Fatalf("Inverse(%v) = %v, %d", m, got, err)
			}
			p, err := Product(m, got)
			wantMatrix(t, "m and its inverse", p, err, one(n), api.OK)
			p, err = Product(got, m)
			wantMatrix(t, "the inverse and m", p, err, one(n), api.OK)
		}
		if found == 0 || found == 400 {
			t.Errorf("of %d rows %d of 400 have an inverse: both kinds are to be looked at", n, found)
		}
	}
}

// behind is m, each row with spare room that holds 99: a call that looks there, or writes there, is seen.
func behind(m [][]int) [][]int {
	out := make([][]int, len(m), len(m)+1)
	for y, row := range m {
		out[y] = append(append(make([]int, 0, len(row)+1), row...), 99)[:len(row)]
	}
	out[:len(m)+1][len(m)] = []int{99}
	return out
}

func TestE2WhatIsHandedInIsOnlyRead(t *testing.T) {
	a, b := [][]int{{3, 3}, {2, 5}}, [][]int{{1, 2}, {4, 25}}
	m, n := behind(a), behind(b)
	Wrong(m)
	Det(m)
	Inverse(m)
	Product(m, n)
	Write(m, "HELPX")
	for _, c := range []struct{ now, then [][]int }{{m, a}, {n, b}} {
		if !reflect.DeepEqual(c.now, c.then) {
			t.Errorf("%v became %v", c.then, c.now)
		}
		for _, row := range c.now {
			if row[:len(row)+1][len(row)] != 99 {
				t.Errorf("behind %v stands %v", c.then, row[:len(row)+1])
			}
		}
		if more := c.now[:len(c.now)+1][len(c.now)]; !slices.Equal(more, []int{99}) {
			t.Errorf("behind the rows of %v stands %v", c.then, more)
		}
	}
}

// overwritten writes over all of m, its spare room too, row by row, and tells whether any other row saw it.
func overwritten(t *testing.T, what string, m [][]int) {
	t.Helper()
	for y := range m {
		row := m[y][:cap(m[y])]
		for x := range row {
			row[x] = -1 - y
		}
	}
	for y := range m {
		for _, v := range m[y][:cap(m[y])] {
			if v != -1-y {
				t.Errorf("%s: row %d shares memory with another one", what, y)
			}
		}
	}
}

func TestE2AnswersAreTheCallers(t *testing.T) {
	for n := 1; n <= api.MaxHill; n++ {
		m := one(n)
		p, _ := Product(m, m)
		i, _ := Inverse(m)
		f, _ := Find(n, written(m), written(m))
		for _, got := range [][][]int{p, i, f} {
			if len(got) != n {
				t.Fatalf("%d rows, not %d", len(got), n)
			}
			overwritten(t, "an answer", got)
		}
		wantMatrix(t, "what was handed in", m, api.OK, one(n), api.OK)
		again, err := Product(m, m)
		wantMatrix(t, "the next answer", again, err, one(n), api.OK)
	}
}
