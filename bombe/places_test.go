package bombe

import (
	"math/rand"
	"slices"
	"strings"
	"testing"
	"unsafe"

	"blackroom/api"
	"blackroom/rotor"
)

func wantPlaces(t *testing.T, text, crib string, want []int, wantFault api.Fault) {
	t.Helper()
	if got, f := Places(text, crib); !slices.Equal(got, want) || f != wantFault {
		t.Errorf("Places(%.40q, %.40q) = %d of them, %.20v, %v; want %d, %.20v, %v", text, crib, len(got), got, f, len(want), want, wantFault)
	}
}

// upTo are 0, 1 .. and so many in all.
func upTo(many int) []int {
	out := make([]int, many)
	for i := range out {
		out[i] = i
	}
	return out
}

func someText(r *rand.Rand, long, kinds int) string {
	out := make([]byte, long)
	for i := range out {
		out[i] = alphabet[r.Intn(kinds)]
	}
	return string(out)
}

func TestB1Places(t *testing.T) {
	for _, c := range []struct {
		text, crib string
		want       []int
	}{
		{"ABC", "B", []int{0, 2}},
		{"ABCABC", "BC", []int{0, 2, 3}},
		{"ABCABC", "ABC", []int{1, 2}},
		{"ABC", "ABC", nil},
		{"ABC", "BCA", []int{0}},
		{"ABC", "XYC", nil},          // at the last letter alone
		{"ABC", "AYZ", nil},          // at the first letter alone
		{"ABC", "XBZ", nil},          // in the middle alone
		{"ABC", "CAB", []int{0}},     // the same letters, elsewhere
		{"ABA", "BA", []int{0}},      // the last place is looked at
		{"BAB", "BA", []int{1}},      // and the first one
		{"AAAAA", "A", nil},          // nowhere
		{"AAAAA", "B", upTo(5)},      // everywhere
		{"AAAAA", "BBBBB", upTo(1)},  // as long as the text
		{"AAAAA", "BBBB", upTo(2)},   // one shorter
		{"AAAAA", "BBBBBB", nil},     // one longer: not all of it lies in the text
		{"A", "BCDEFGHIJKLMNO", nil}, // much longer
		{"", "A", nil},
		{"ABC", "", upTo(4)}, // none of no letters stands at the same letter, behind the text neither
		{"", "", upTo(1)},
	} {
		wantPlaces(t, c.text, c.crib, c.want, api.Fault{})
	}
}

// placesOnPaper lays the crib under the text, at each place, and counts the columns with one letter twice.
func placesOnPaper(text, crib string) []int {
	var out []int
	for at := 0; at+len(crib) <= len(text); at++ {
		twice := 0
		for i, c := range crib {
			if rune(text[at+i]) == c {
				twice++
			}
		}
		if twice == 0 {
			out = append(out, at)
		}
	}
	return out
}

func TestB1PlacesOfAnyTexts(t *testing.T) {
	r := rand.New(rand.NewSource(101))
	for range 3000 {
		kinds := 2 + r.Intn(25)
		text, crib := someText(r, r.Intn(60), kinds), someText(r, r.Intn(12), kinds)
		wantPlaces(t, text, crib, placesOnPaper(text, crib), api.Fault{})
	}
}

// Where a text was truly written, it may lie.
func TestB1PlacesDoNotMissTheText(t *testing.T) {
	r := rand.New(rand.NewSource(102))
	for range 200 {
		text := someText(r, 80, 26)
		told, f := rotor.Write(someMachine(r, 1+r.Intn(api.MaxWheels)), text)
		if f.Err != api.OK {
			t.Fatalf("Write = %v", f)
		}
		at := r.Intn(80)
		end := at + r.Intn(80-at)
		l, f := Places(told, text[at:end])
		if f.Err != api.OK || !slices.Contains(l, at) {
			t.Errorf("Places of %q in %q = %v, %v: %d is missing", text[at:end], told, l, f, at)
		}
	}
}

func TestB1PlacesThatAreWrong(t *testing.T) {
	long := strings.Repeat("A", api.MaxText)
	for _, c := range []struct {
		s    string
		want api.Fault
	}{
		{"a", fault(api.ErrForm, 0)},
		{"AB c", fault(api.ErrForm, 2)},
		{"AÄ", fault(api.ErrForm, 1)},
		{"ABC[", fault(api.ErrForm, 3)},
		{"@", fault(api.ErrForm, 0)},
		{"AB\xff", fault(api.ErrForm, 2)},
		{"A\x00", fault(api.ErrForm, 1)},
		{long[1:] + "1", fault(api.ErrForm, api.MaxText-1)},
		{long + "A", fault(api.ErrMuch, 0)},
		{long + "a", fault(api.ErrMuch, 0)},
	} {
		for _, right := range []string{"", "B", "ABCDEFGH"} {
			wantPlaces(t, c.s, right, nil, c.want)
			wantPlaces(t, right, c.s, nil, c.want)
		}
		// The text comes ahead of the crib.
		wantPlaces(t, c.s, "QQQQQQQ1", nil, c.want)
		wantPlaces(t, "QQQQQQQ1", c.s, nil, fault(api.ErrForm, 7))
		wantPlaces(t, c.s, long+"A", nil, c.want)
		wantPlaces(t, long+"A", c.s, nil, fault(api.ErrMuch, 0))
	}
}

// Places bounds the crib no more than Check does.
func TestB1PlacesOfLongTexts(t *testing.T) {
	long := strings.Repeat("A", api.MaxText)
	wantPlaces(t, long, "B", upTo(api.MaxText), api.Fault{})
	wantPlaces(t, long, "", upTo(api.MaxText+1), api.Fault{})
	wantPlaces(t, long, long, nil, api.Fault{})
	wantPlaces(t, long, strings.Repeat("B", api.MaxText), upTo(1), api.Fault{})
	wantPlaces(t, long, strings.Repeat("B", api.MaxText/2), upTo(api.MaxText/2+1), api.Fault{})
	wantPlaces(t, long, strings.Repeat("B", api.MaxCrib+1), upTo(api.MaxText-api.MaxCrib), api.Fault{})
	wantPlaces(t, long[1:], strings.Repeat("B", api.MaxText), nil, api.Fault{})
	wantPlaces(t, "", strings.Repeat("B", api.MaxText), nil, api.Fault{})
}

func TestE2PlacesAreNewMemory(t *testing.T) {
	text, crib := []byte("ABCABC"), []byte("BC")
	first, _ := Places(unsafe.String(&text[0], len(text)), unsafe.String(&crib[0], len(crib)))
	if string(text) != "ABCABC" || string(crib) != "BC" {
		t.Errorf("what was handed in is now %q and %q", text, crib)
	}
	copy(text, "QQQQQQ")
	copy(crib, "QQ")
	if !slices.Equal(first, []int{0, 2, 3}) {
		t.Errorf("what was told is now %v", first)
	}
	first = first[:cap(first)]
	for i := range first {
		first[i] = -99
	}
	wantPlaces(t, "ABCABC", "BC", []int{0, 2, 3}, api.Fault{})
}
