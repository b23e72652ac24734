package letters

import (
	"math"
	"strings"
	"testing"
	"unicode/utf8"
	"unsafe"

	"blackroom/api"
)

// table is that of L1, row by row: written a second time, so that a slip in the program's own is seen.
var table = []struct{ runes, written string }{
	{"ÄäÆæ", "AE"},
	{"ÖöØøŒœ", "OE"},
	{"Üü", "UE"},
	{"ß", "SS"},
	{"Åå", "AA"},
	{"ÉéÈèÊê", "E"},
	{"ÀàÂâĄą", "A"},
	{"ÇçĆć", "C"},
	{"Łł", "L"},
	{"ŃńÑñ", "N"},
	{"Śś", "S"},
	{"ŹźŻż", "Z"},
	{".?!", "X"},
}

const alphabet = "ABCDEFGHIJKLMNOPQRSTUVWXYZ"

func tableByRune() map[rune]string {
	m := map[rune]string{}
	for _, row := range table {
		for _, r := range row.runes {
			m[r] = row.written
		}
	}
	for i, r := range alphabet {
		m[r] = alphabet[i : i+1]
	}
	for i, r := range "abcdefghijklmnopqrstuvwxyz" {
		m[r] = alphabet[i : i+1]
	}
	return m
}

func fault(e api.Errno, at int) api.Fault { return api.Fault{Err: e, At: at} }

func wantFold(t *testing.T, text, want string, wantErr api.Errno) {
	t.Helper()
	if got, err := Fold(text); got != want || err != wantErr {
		t.Errorf("Fold(%.40q of %d bytes) = %.40q of %d bytes, %d; want %.40q of %d bytes, %d", text, len(text), got, len(got), err, want, len(want), wantErr)
	}
}

func wantCheck(t *testing.T, text string, want api.Fault) {
	t.Helper()
	if got := Check(text); got != want {
		t.Errorf("Check(%.40q of %d bytes) = %v; want %v", text, len(text), got, want)
	}
}

func wantGroup(t *testing.T, text string, long, wide int, want string, wantFault api.Fault) {
	t.Helper()
	if got, f := Group(text, long, wide); got != want || f != wantFault {
		t.Errorf("Group(%.40q of %d bytes, %d, %d) = %.40q of %d bytes, %v; want %.40q of %d bytes, %v", text, len(text), long, wide, got, len(got), f, want, len(want), wantFault)
	}
}

func wantUngroup(t *testing.T, text, want string, wantFault api.Fault) {
	t.Helper()
	if got, f := Ungroup(text); got != want || f != wantFault {
		t.Errorf("Ungroup(%.40q of %d bytes) = %.40q of %d bytes, %v; want %.40q of %d bytes, %v", text, len(text), got, len(got), f, want, len(want), wantFault)
	}
}

func TestL1FoldsTexts(t *testing.T) {
	for _, c := range []struct{ text, want string }{
		{"", ""},
		{"Größe!", "GROESSEX"},
		{"Veni, vidi, vici.", "VENIVIDIVICIX"},
		{"Zażółć gęślą jaźń!", "ZAZLCGSLAJAZNX"},
		{"7 élèves? Œuvre; Ångström...", "ELEVESXOEUVREAANGSTROEMXXX"},
		{" \t\n0123456789", ""},
		{"A\u0308", "A"}, // a mark that stands on its own is in no row
		{"\ufffd", ""},
		{"A\x00B", "AB"},
	} {
		wantFold(t, c.text, c.want, api.OK)
	}
}

// TestL1EveryRune holds every rune against the table, also those that look or sort like one of its runes.
func TestL1EveryRune(t *testing.T) {
	rows := tableByRune()
	for r := rune(0); r <= utf8.MaxRune; r++ {
		if !utf8.ValidRune(r) {
			continue
		}
		want := rows[r]
		if got, err := Fold(string(r)); got != want || err != api.OK {
			t.Errorf("Fold(%q) = %q, %d; want %q", r, got, err, want)
		}
	}
}

func TestL1EveryRowAmongOthers(t *testing.T) {
	for r, written := range tableByRune() {
		wantFold(t, "b"+string(r)+"歌"+string(r)+"D", "B"+written+written+"D", api.OK)
	}
}

func TestL1BytesThatBeginNoRune(t *testing.T) {
	for b := 0x80; b <= 0xff; b++ {
		wantFold(t, "A"+string([]byte{byte(b)})+"B", "AB", api.OK)
	}
	for _, c := range []struct{ text, want string }{
		{"\xff", ""},
		{"A\xc3", "A"},
		{"\xc3ä", "AE"},
		{"\xe2\x82Z", "Z"},
		{"\xf0\x9f\x98z", "Z"},
		{"\xc1\x81", ""},               // A, written longer than it may be
		{"\xed\xa0\x80b", "B"},         // half of a pair
		{"\xf4\x90\x80\x80.", "X"},     // behind the last rune
		{"\x9fSS\xc3\xc3\x9f", "SSSS"}, // a rune's end, alone
	} {
		wantFold(t, c.text, c.want, api.OK)
	}
}

func TestL1Bounds(t *testing.T) {
	half := api.MaxText / 2
	full := strings.Repeat("A", api.MaxText)
	wantFold(t, full, full, api.OK)
	wantFold(t, strings.ToLower(full), full, api.OK)
	wantFold(t, full+"A", "", api.ErrMuch)
	wantFold(t, strings.Repeat("ß", half), strings.Repeat("SS", half), api.OK)
	wantFold(t, strings.Repeat("ß", half+1), "", api.ErrMuch)
	wantFold(t, strings.Repeat("ß", half-1)+"ab", strings.Repeat("SS", half-1)+"AB", api.OK)
	// What is measured first is the text, not what comes of it.
	wantFold(t, strings.Repeat(" ", api.MaxText), "", api.OK)
	wantFold(t, strings.Repeat(" ", api.MaxText+1), "", api.ErrMuch)
	wantFold(t, strings.Repeat("\xff", api.MaxText+1), "", api.ErrMuch)
}

// TestL1NothingGrows is why Fold measures once: while no rune is written longer than it is, what comes can't be too long where the text is not.
func TestL1NothingGrows(t *testing.T) {
	for r, written := range tableByRune() {
		if got := appendFolded(nil, r); string(got) != written || len(got) > utf8.RuneLen(r) {
			t.Errorf("%q, of %d bytes, is written %q; want %q, no longer than it is", r, utf8.RuneLen(r), got, written)
		}
	}
}

func TestL1FoldedIsATextOfLetters(t *testing.T) {
	for _, text := range []string{"", "Größe!", "A\xffB", "Œuvre, 7 élèves?", strings.Repeat("ß", api.MaxText/2)} {
		folded, _ := Fold(text)
		wantCheck(t, folded, fault(api.OK, 0))
		wantFold(t, folded, folded, api.OK)
	}
}

func TestL2EveryByte(t *testing.T) {
	for b := range 256 {
		c := string([]byte{byte(b)})
		want := fault(api.ErrForm, 0)
		if strings.Contains(alphabet, c) {
			want = fault(api.OK, 0)
		}
		wantCheck(t, c, want)
	}
}

func TestL2Places(t *testing.T) {
	wantCheck(t, "", fault(api.OK, 0))
	wantCheck(t, alphabet, fault(api.OK, 0))
	wantCheck(t, "ABc", fault(api.ErrForm, 2))
	wantCheck(t, "A b c", fault(api.ErrForm, 1))
	wantCheck(t, "ABÄ", fault(api.ErrForm, 2))
	wantCheck(t, "\xff", fault(api.ErrForm, 0))
	wantCheck(t, "AB\n", fault(api.ErrForm, 2))
	for i := range len(alphabet) {
		wantCheck(t, alphabet[:i]+"."+alphabet[i+1:], fault(api.ErrForm, i))
	}
}

func TestL2Bounds(t *testing.T) {
	full := strings.Repeat("Z", api.MaxText)
	wantCheck(t, full, fault(api.OK, 0))
	wantCheck(t, full+"Z", fault(api.ErrMuch, 0))
	wantCheck(t, full[1:]+"z", fault(api.ErrForm, api.MaxText-1))
	wantCheck(t, "z"+full, fault(api.ErrMuch, 0))
	wantCheck(t, full+"z", fault(api.ErrMuch, 0))
}

func TestL3Groups(t *testing.T) {
	for _, c := range []struct {
		text       string
		long, wide int
		want       string
	}{
		{"", 1, 1, ""},
		{"", 5, 2, ""},
		{"A", 1, 1, "A"},
		{"ABCDEFGHIJKLM", 5, 2, "ABCDE FGHIJ\nKLM"},
		{"ABCDEFGHIJ", 5, 2, "ABCDE FGHIJ"},
		{"ABCDEFGHIJK", 5, 2, "ABCDE FGHIJ\nK"},
		{"ABCDE", 5, 1, "ABCDE"},
		{"ABCDEF", 5, 1, "ABCDE\nF"},
		{"ABC", 1, 1, "A\nB\nC"},
		{"ABC", 1, 2, "A B\nC"},
		{"ABC", 1, 3, "A B C"},
		{"ABC", 2, math.MaxInt, "AB C"},
		{"ABC", math.MaxInt, 1, "ABC"},
		{"ABC", math.MaxInt, math.MaxInt, "ABC"},
		{"ABC", 1 << 62, 1 << 62, "ABC"},
		{"ABCDE", 3, math.MaxInt/3 + 1, "ABC DE"}, // a line's letters, multiplied out, would wrap round
	} {
		wantGroup(t, c.text, c.long, c.wide, c.want, fault(api.OK, 0))
	}
}

// slowGroup cuts text into groups, and those into lines, by joining.
func slowGroup(text string, long, wide int) string {
	var groups, lines []string
	for len(text) > 0 {
		n := min(long, len(text))
		groups = append(groups, text[:n])
		text = text[n:]
	}
	for len(groups) > 0 {
		n := min(wide, len(groups))
		lines = append(lines, strings.Join(groups[:n], " "))
		groups = groups[n:]
	}
	return strings.Join(lines, "\n")
}

func TestL3GroupsOfAllSizes(t *testing.T) {
	for n := range len(alphabet) + 1 {
		for long := 1; long <= n+2; long++ {
			for wide := 1; wide <= n+2; wide++ {
				want := slowGroup(alphabet[:n], long, wide)
				wantGroup(t, alphabet[:n], long, wide, want, fault(api.OK, 0))
				wantUngroup(t, want, alphabet[:n], fault(api.OK, 0))
			}
		}
	}
}

func TestL3GroupWrong(t *testing.T) {
	for _, bad := range []int{0, -1, -5, math.MinInt} {
		for _, text := range []string{"", "ABC", strings.Repeat("A", api.MaxText)} {
			wantGroup(t, text, bad, 1, "", fault(api.ErrRange, 0))
			wantGroup(t, text, 1, bad, "", fault(api.ErrRange, 0))
			wantGroup(t, text, bad, bad, "", fault(api.ErrRange, 0))
		}
		// What Check says is told ahead of it.
		wantGroup(t, "AB C", bad, bad, "", fault(api.ErrForm, 2))
		wantGroup(t, strings.Repeat("A", api.MaxText+1), bad, 1, "", fault(api.ErrMuch, 0))
	}
	wantGroup(t, "ABc", 1, 1, "", fault(api.ErrForm, 2))
	wantGroup(t, "\xff", 1, 1, "", fault(api.ErrForm, 0))
	wantGroup(t, strings.Repeat("A", api.MaxText+1), 1, 1, "", fault(api.ErrMuch, 0))
	wantGroup(t, strings.Repeat("a", api.MaxText+1), 1, 1, "", fault(api.ErrMuch, 0))
}

// TestL3Fullest: the longest text in the smallest groups is what Ungroup must still take.
func TestL3Fullest(t *testing.T) {
	full := strings.Repeat("A", api.MaxText)
	for _, wide := range []int{1, 2, math.MaxInt} {
		grouped := slowGroup(full, 1, wide)
		if len(grouped) != 2*api.MaxText-1 {
			t.Fatalf("%d bytes in groups of 1", len(grouped))
		}
		wantGroup(t, full, 1, wide, grouped, fault(api.OK, 0))
		wantUngroup(t, grouped, full, fault(api.OK, 0))
	}
	wantGroup(t, full, api.MaxText, 1, full, fault(api.OK, 0))
	wantGroup(t, full, api.MaxText-1, 1, full[1:]+"\nA", fault(api.OK, 0))
}

func TestL3Ungroups(t *testing.T) {
	for _, c := range []struct{ text, want string }{
		{"", ""},
		{" ", ""},
		{"\n\n \n", ""},
		{"ABC", "ABC"},
		{"ABCDE FGHIJ\nKLM", "ABCDEFGHIJKLM"},
		{"  A\n\nB C \n", "ABC"},
	} {
		wantUngroup(t, c.text, c.want, fault(api.OK, 0))
	}
}

func TestL3UngroupEveryByte(t *testing.T) {
	for b := range 256 {
		c := string([]byte{byte(b)})
		switch {
		case strings.Contains(alphabet, c):
			wantUngroup(t, "A \n"+c+"Z", "A"+c+"Z", fault(api.OK, 0))
		case c == " " || c == "\n":
			wantUngroup(t, "A \n"+c+"Z", "AZ", fault(api.OK, 0))
		default:
			wantUngroup(t, "A \n"+c+"Z", "", fault(api.ErrForm, 3))
		}
	}
	wantUngroup(t, "AB\r\nc", "", fault(api.ErrForm, 2))
	wantUngroup(t, "A\u00a0B", "", fault(api.ErrForm, 1))
}

func TestL3UngroupBounds(t *testing.T) {
	full := strings.Repeat("A", api.MaxText)
	gaps := strings.Repeat(" ", api.MaxText)
	wantUngroup(t, full, full, fault(api.OK, 0))
	wantUngroup(t, full+gaps, full, fault(api.OK, 0))
	wantUngroup(t, gaps+gaps, "", fault(api.OK, 0))
	wantUngroup(t, gaps+gaps[1:]+"Q", "Q", fault(api.OK, 0))
	wantUngroup(t, full+"A", "", fault(api.ErrMuch, 0))
	wantUngroup(t, full+"\nA", "", fault(api.ErrMuch, 0))
	wantUngroup(t, full+full, "", fault(api.ErrMuch, 0))
	wantUngroup(t, full+gaps+" ", "", fault(api.ErrMuch, 0))
	wantUngroup(t, gaps+gaps+" ", "", fault(api.ErrMuch, 0))
	// Too long in all is told first, then a wrong byte, then too many letters.
	wantUngroup(t, "a"+full+full, "", fault(api.ErrMuch, 0))
	wantUngroup(t, full+"Aa", "", fault(api.ErrForm, api.MaxText+1))
	wantUngroup(t, full+full[1:]+"-", "", fault(api.ErrForm, 2*api.MaxText-1))
}

// TestE2NewMemory: an answer that reads like its text is a copy of it all the same.
func TestE2NewMemory(t *testing.T) {
	text := strings.Repeat("ABCDE", 20)
	folded, _ := Fold(text)
	grouped, _ := Group(text, len(text), 1)
	ungrouped, _ := Ungroup(text)
	for name, got := range map[string]string{"Fold": folded, "Group": grouped, "Ungroup": ungrouped} {
		if got != text {
			t.Errorf("%s gives %q", name, got)
		}
		if unsafe.StringData(got) == unsafe.StringData(text) {
			t.Errorf("%s hands its argument back", name)
		}
	}
}
