package perm

import (
	"strings"
	"testing"

	"blackroom/api"
)

const alphabet = "ABCDEFGHIJKLMNOPQRSTUVWXYZ"

func wantPrint(t *testing.T, p api.Perm, want string) {
	t.Helper()
	if got, err := Print(p); got != want || err != api.OK {
		t.Errorf("Print(%v) = %q, %d; want %q", p, got, err, want)
	}
}

func wantRead(t *testing.T, text string, want api.Perm, wantFault api.Fault) {
	t.Helper()
	if got, f := Read(text); got != want || f != wantFault {
		t.Errorf("Read(%.60q of %d bytes) = %v, %v; want %v, %v", text, len(text), got, f, want, wantFault)
	}
}

func wantFault(t *testing.T, text string, err api.Errno, at int) {
	t.Helper()
	wantRead(t, text, api.Perm{}, api.Fault{Err: err, At: at})
}

func TestP4Prints(t *testing.T) {
	for _, c := range []struct {
		p    api.Perm
		want string
	}{
		{straight(), ""},
		{spelled("BCA"), "(ABC)"},
		{spelled("CAB"), "(ACB)"},
		{spelled("BA"), "(AB)"},
		{spelled("BCAED"), "(ABC)(DE)"},
		{spelled("GBCEFDA"), "(AG)(DEF)"},
		{spelled("ABDC"), "(CD)"},
		{spelled("DCBA"), "(AD)(BC)"},
		{spelled("ABCDEFGHIJKLMNOPQRSTUVWXZY"), "(YZ)"},
		{spelled("BCDEFGHIJKLMNOPQRSTUVWXYZA"), "(ABCDEFGHIJKLMNOPQRSTUVWXYZ)"},
		{spelled("ZABCDEFGHIJKLMNOPQRSTUVWXY"), "(AZYXWVUTSRQPONMLKJIHGFEDCB)"},
		{spelled("ZYXWVUTSRQPONMLKJIHGFEDCBA"), "(AZ)(BY)(CX)(DW)(EV)(FU)(GT)(HS)(IR)(JQ)(KP)(LO)(MN)"},
	} {
		wantPrint(t, c.p, c.want)
		wantRead(t, c.want, c.p, api.Fault{})
	}
}

func TestP4WhatIsPrintedIsReadAgain(t *testing.T) {
	for _, p := range shuffled(200) {
		text, err := Print(p)
		if err != api.OK {
			t.Fatalf("Print(%v): %d", p, err)
		}
		wantRead(t, text, p, api.Fault{})
	}
}

func TestP4ReadsAnyOrderAndAnyBeginning(t *testing.T) {
	for _, c := range []struct{ text, want string }{
		{"", ""},
		{"(A)", ""},
		{"(Z)(A)(M)", ""},
		{"(" + strings.Join(strings.Split(alphabet, ""), ")(") + ")", ""},
		{"(BCA)", "BCA"},
		{"(CAB)", "BCA"},
		{"(DE)(ABC)", "BCAED"},
		{"(ED)(F)(CAB)(Z)", "BCAED"},
		{"(DEF)(GA)", "GBCEFDA"},
		{"(ZYXWVUTSRQPONMLKJIHGFEDCBA)", "ZABCDEFGHIJKLMNOPQRSTUVWXY"},
		{"(NOPQRSTUVWXYZABCDEFGHIJKLM)", "BCDEFGHIJKLMNOPQRSTUVWXYZA"},
	} {
		wantRead(t, c.text, spelled(c.want), api.Fault{})
	}
}

// TestP4EveryWayToWriteOne turns and swaps the cycles of one permutation.
func TestP4EveryWayToWriteOne(t *testing.T) {
	want := must(t, "(ABC)(DEFG)(HI)")
	turn := func(s string, k int) string { return "(" + s[k:] + s[:k] + ")" }
	for a := range 3 {
		for b := range 4 {
			for c := range 2 {
				x, y, z := turn("ABC", a), turn("DEFG", b), turn("HI", c)
				for _, text := range []string{x + y + z, x + z + y, y + x + z, y + z + x, z + x + y, z + y + x, z + "(Q)" + y + "(R)" + x} {
					wantRead(t, text, want, api.Fault{})
				}
			}
		}
	}
}

func TestP4ALetterThatStandsThereAlready(t *testing.T) {
	for _, c := range []struct {
		text string
		at   int
	}{
		{"(AA)", 2},
		{"(AA", 2},
		{"(ABA)", 3},
		{"(ABB)", 3},
		{"(AB)(BC)", 5},
		{"(AB)(CA)", 6},
		{"(A)(A)", 4},
		{"(A)(A", 4},
		{"(Z)(YXZ)", 6},
		{"(AB)(CBa", 6}, // what comes behind it isn't met
		{"(" + alphabet + "A", 27},
		{"(" + alphabet + ")(Z)", 29},
	} {
		wantFault(t, c.text, api.ErrFit, c.at)
	}
	for i := range alphabet {
		wantFault(t, "("+alphabet+alphabet[i:i+1]+")", api.ErrFit, 27)
		wantFault(t, "("+alphabet+")("+alphabet[i:i+1]+")", api.ErrFit, 29)
	}
}

func TestP4TextsThatCannotGoOn(t *testing.T) {
	for _, c := range []struct {
		text string
		at   int
	}{
		{"()", 1},
		{"(()", 1},
		{"(A)()", 4},
		{"(A(B))", 2},
		{"AB)", 0},
		{")", 0},
		{"(A))", 3},
		{"(ab)", 1},
		{"(Ab)", 2},
		{"(AB) (CD)", 4},
		{" (AB)", 0},
		{"(AB)\n", 4},
		{"(A B)", 2},
		{"(AÄ)", 2},
		{"(A,B)", 2},
		{"(AB)C", 4},
		{"(AB)A", 4}, // outside of brackets no letter can come, none that stands there either
		{"(A)\x00", 3},
		{"(A\xff)", 2},
		{"(A-A)", 2}, // what comes behind it isn't met
		{"[AB]", 0},
		{"(AB]", 3},
	} {
		wantFault(t, c.text, api.ErrForm, c.at)
	}
}

func TestP4TextsThatEndTooEarly(t *testing.T) {
	for _, text := range []string{"(", "(A", "(AB", "(AB)(", "(AB)(C", "(" + alphabet, "(A)(B)(C)("} {
		wantFault(t, text, api.ErrForm, len(text))
	}
}

// TestP4EveryByte asks for each byte outside of brackets, behind a bracket that has just been opened, and behind a letter.
func TestP4EveryByte(t *testing.T) {
	for b := range 256 {
		c := string([]byte{byte(b)})
		letter := 'A' <= b && b <= 'Z'
		for _, ahead := range []string{"", "(GH)", "(", "(GH)(", "(G", "(G)(H"} {
			text := ahead + c
			open := strings.Count(ahead, "(") > strings.Count(ahead, ")")
			full := open && !strings.HasSuffix(ahead, "(")
			switch {
			case open && letter && strings.Contains(ahead, c):
				wantFault(t, text, api.ErrFit, len(ahead))
			case open && letter, !open && c == "(":
				wantFault(t, text, api.ErrForm, len(text))
			case full && c == ")":
				wantRead(t, text, straight(), api.Fault{})
			default:
				wantFault(t, text, api.ErrForm, len(ahead))
			}
		}
	}
}

func TestP4LongTexts(t *testing.T) {
	long := 1 << 20
	wantFault(t, strings.Repeat("(", long), api.ErrForm, 1)
	wantFault(t, strings.Repeat("A", long), api.ErrForm, 0)
	wantFault(t, strings.Repeat("(A)", long), api.ErrFit, 4)
	wantFault(t, "("+strings.Repeat(alphabet, long/26), api.ErrFit, 27)
}
