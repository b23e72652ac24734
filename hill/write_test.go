package hill

import (
	"math"
	"strings"
	"testing"

	"blackroom/api"
)

func wantWrite(t *testing.T, m [][]int, text, want string, wantFault api.Fault) {
	t.Helper()
	if got, f := Write(m, text); got != want || f != wantFault {
		t.Errorf("Write(%v, %.40q of %d bytes) = %.40q of %d bytes, %v; want %.40q of %d bytes, %v", m, text, len(text), got, len(got), f, want, len(want), wantFault)
	}
}

func fault(e api.Errno, at int) api.Fault { return api.Fault{Err: e, At: at} }

// written is m place by place: its columns, each from above, as letters.
func written(m [][]int) string {
	var out []byte
	for x := range m {
		for y := range m {
			out = append(out, byte('A'+m[y][x]))
		}
	}
	return string(out)
}

func TestH2Write(t *testing.T) {
	help := [][]int{{3, 3}, {2, 5}}
	act := [][]int{{6, 24, 1}, {13, 16, 10}, {20, 17, 15}}
	for _, c := range []struct {
		m          [][]int
		text, want string
	}{
		{help, "HELP", "HIAT"},
		{help, "", ""},
		{help, "HE", "HI"},
		{help, "HEA", "HIRL"}, // of AX: 3 times 23 is 17, 5 times 23 is 11
		{help, "X", "IF"},     // of XX: 6 times 23 is 8, 7 times 23 is 5
		{act, "ACT", "POH"},
		{act, "ACTACT", "POHPOH"},
		{act, "", ""},
		{one(3), "A", "AXX"},
		{one(3), "AB", "ABX"},
		{one(3), "ABC", "ABC"},
		{one(3), "ABCD", "ABCDXX"},
		{one(4), "A", "AXXX"},
		{one(4), "ABCDEF", "ABCDEFXX"},
		{one(4), "ABCDEFG", "ABCDEFGX"},
		{one(1), "HELLO", "HELLO"},
		{[][]int{{3}}, "ABCZ", "ADGX"},
		{[][]int{{0}}, "HELLO", "AAAAA"},
		{[][]int{{1, 2, 3, 4}, {0, 1, 5, 6}, {0, 0, 1, 7}, {0, 0, 0, 1}}, "BBBB", "KMIB"},
		{filledWith(4, 25), "ZZZZ", "EEEE"},
	} {
		wantWrite(t, c.m, c.text, c.want, api.Fault{})
	}
}

func TestH2WriteLetterByLetter(t *testing.T) {
	text := strings.Repeat("THEQUICKBROWNFOXJUMPSOVERTHELAZYDOG", 2)
	for n := 1; n <= api.MaxHill; n++ {
		full := text
		for len(full)%n != 0 {
			full += "X"
		}
		for _, m := range some(n, 20) {
			want := make([]byte, len(full))
			for i := range full {
				sum := 0
				for k, v := range m[i%n] {
					sum += v * int(full[i/n*n+k]-'A')
				}
				want[i] = byte('A' + sum%26)
			}
			wantWrite(t, m, text, string(want), api.Fault{})
		}
	}
}

// What is enciphered is undone; a product does what both do, the second one first.
func TestH2WriteIsUndone(t *testing.T) {
	text := "THEQUICKBROWNFOXJUMPSOVERTHELAZYDOGX" // of 36 letters: each number of rows divides it
	for n := 1; n <= api.MaxHill; n++ {
		for _, m := range some(n, 100) {
			hidden, _ := Write(m, text)
			if back, err := Inverse(m); err == api.OK {
				wantWrite(t, back, hidden, text, api.Fault{})
			}
			twice, _ := Write(m, hidden)
			p, _ := Product(m, m)
			wantWrite(t, p, text, twice, api.Fault{})
		}
		a, b := some(n, 2)[0], some(n, 2)[1]
		p, _ := Product(a, b)
		first, _ := Write(b, text)
		both, _ := Write(a, first)
		wantWrite(t, p, text, both, api.Fault{})
	}
}

func TestH2WriteWrongMatrix(t *testing.T) {
	for _, c := range wrongOnes {
		for _, text := range []string{"HELP", "", "ab", "ABc", strings.Repeat("A", api.MaxText+1)} {
			wantWrite(t, c.m, text, "", fault(c.want, 0))
		}
	}
}

func TestH2WriteWrongText(t *testing.T) {
	for n := 1; n <= api.MaxHill; n++ {
		wantWrite(t, one(n), "a", "", fault(api.ErrForm, 0))
		wantWrite(t, one(n), "ABC DEF", "", fault(api.ErrForm, 3))
		wantWrite(t, one(n), "ABCDEFÄ", "", fault(api.ErrForm, 6))
		wantWrite(t, one(n), "AB@[", "", fault(api.ErrForm, 2))
		wantWrite(t, one(n), strings.Repeat("A", api.MaxText-1)+"\x00", "", fault(api.ErrForm, api.MaxText-1))
		wantWrite(t, one(n), strings.Repeat("A", api.MaxText+1), "", fault(api.ErrMuch, 0))
		wantWrite(t, one(n), strings.Repeat("a", api.MaxText+1), "", fault(api.ErrMuch, 0))
	}
}

func TestH2WriteLongTexts(t *testing.T) {
	long := strings.Repeat("A", api.MaxText)
	for _, n := range []int{1, 2, 4} {
		wantWrite(t, one(n), long, long, api.Fault{})
	}
	wantWrite(t, one(2), long[1:], long[1:]+"X", api.Fault{})
	wantWrite(t, one(4), long[3:], long[3:]+"XXX", api.Fault{})
	// Three divides MaxText less 1, so that one letter more must be filled up by two, and goes beyond MaxText.
	wantWrite(t, one(3), long[1:], long[1:], api.Fault{})
	wantWrite(t, one(3), long[2:], long[2:]+"X", api.Fault{})
	wantWrite(t, one(3), long, "", fault(api.ErrMuch, 0))
}

func wantFind(t *testing.T, n int, text, told string, want [][]int, wantErr api.Errno) {
	t.Helper()
	got, err := Find(n, text, told)
	wantMatrix(t, "Find of "+text[:min(len(text), 40)]+" and "+told[:min(len(told), 40)], got, err, want, wantErr)
}

func TestH3Find(t *testing.T) {
	help := [][]int{{3, 3}, {2, 5}}
	wantFind(t, 2, "HELP", "HIAT", help, api.OK)
	wantFind(t, 1, "D", "G", [][]int{{2}}, api.OK)
	wantFind(t, 1, "B", "A", [][]int{{0}}, api.OK)
	wantFind(t, 2, "BAAB", "HELP", [][]int{{7, 11}, {4, 15}}, api.OK)
	wantFind(t, 2, "BAAB", "AAAA", [][]int{{0, 0}, {0, 0}}, api.OK)
	wantFind(t, 2, "HELP", "HELP", one(2), api.OK)
}

// What stands behind the first n pieces is not looked at, but by Check: the texts need not be of one length, nor fit there.
func TestH3FindFirstPiecesAlone(t *testing.T) {
	help := [][]int{{3, 3}, {2, 5}}
	wantFind(t, 2, "HELPA", "HIAT", help, api.OK)
	wantFind(t, 2, "HELP", "HIATZZZ", help, api.OK)
	wantFind(t, 2, "HELPAAAA", "HIATZZZZ", help, api.OK)
	wantFind(t, 2, "HELP"+strings.Repeat("A", api.MaxText-4), "HIAT", help, api.OK)
	// The first pieces have no inverse; later ones that have one are not taken in their place.
	wantFind(t, 2, "AAAAHELP", "AAAAHIAT", nil, api.ErrNone)
}

func TestH3FindWhatWrote(t *testing.T) {
	for n := 1; n <= api.MaxHill; n++ {
		found, pieces := 0, some(n, 101)
		for i, m := range pieces[:100] {
			text := written(pieces[i+1])
			told, _ := Write(m, text)
			d := detByOrders(pieces[i+1])
			if d%2 == 0 || d%13 == 0 {
				wantFind(t, n, text, told, nil, api.ErrNone)
				continue
			}
			found++
			wantFind(t, n, text, told, m, api.OK)
		}
		if found == 0 || found == 100 {
			t.Errorf("of %d rows %d of 100 are found: both kinds are to be looked at", n, found)
		}
	}
}

func TestH3FindNone(t *testing.T) {
	wantFind(t, 2, "AAAA", "HIAT", nil, api.ErrNone)
	wantFind(t, 2, "AAAA", "AAAA", nil, api.ErrNone)
	wantFind(t, 2, "HEHE", "HIHI", nil, api.ErrNone)
	wantFind(t, 1, "C", "E", nil, api.ErrNone) // 2 times 2 is 4, but so is 2 times 15
	wantFind(t, 1, "N", "A", nil, api.ErrNone)
	wantFind(t, 1, "A", "A", nil, api.ErrNone)
}

func TestH3FindOutOfBounds(t *testing.T) {
	long := strings.Repeat("A", api.MaxText+1)
	for _, n := range []int{0, -1, api.MaxHill + 1, math.MinInt, math.MaxInt, 1 << 32} {
		for _, text := range []string{"HELPHELPHELPHELPHELPHELPHELP", "", "a", long} {
			wantFind(t, n, text, "HIAT", nil, api.ErrMany)
			wantFind(t, n, "HELP", text, nil, api.ErrMany)
		}
	}
}

func TestH3FindWrongTexts(t *testing.T) {
	long := strings.Repeat("A", api.MaxText+1)
	for n := 1; n <= api.MaxHill; n++ {
		wantFind(t, n, "a", "A", nil, api.ErrForm)
		wantFind(t, n, "A", "a", nil, api.ErrForm)
		wantFind(t, n, long, "A", nil, api.ErrMuch)
		wantFind(t, n, "A", long, nil, api.ErrMuch)
		wantFind(t, n, "a", long, nil, api.ErrForm)
		wantFind(t, n, long, "a", nil, api.ErrMuch)
		wantFind(t, n, "", "a", nil, api.ErrForm)
		wantFind(t, n, "a", "", nil, api.ErrForm)
	}
	wantFind(t, 2, "HELPa", "HIAT", nil, api.ErrForm)
	wantFind(t, 2, "HELP", "HIATa", nil, api.ErrForm)
	wantFind(t, 2, "AAAA", "HIATa", nil, api.ErrForm)
}

func TestH3FindTooFewLetters(t *testing.T) {
	for n := 1; n <= api.MaxHill; n++ {
		enough := written(one(n))
		for short := range n * n {
			wantFind(t, n, enough[:short], enough, nil, api.ErrMany)
			wantFind(t, n, enough, enough[:short], nil, api.ErrMany)
			wantFind(t, n, enough[:short], enough[:short], nil, api.ErrMany)
		}
		wantFind(t, n, enough, enough, one(n), api.OK)
	}
	// Too few is told ahead of what has no inverse.
	wantFind(t, 2, "AAAA", "HIA", nil, api.ErrMany)
}
