package square

import (
	"math/rand"
	"strconv"
	"strings"
	"testing"
	"unsafe"

	"blackroom/api"
)

const without = "ABCDEFGHIKLMNOPQRSTUVWXYZ" // J

// keys: with no letters, with some that come again, with I and J, with all of them.
var keys = []string{"", "A", "Z", "I", "J", "IJ", "JI", "JIJI", "PLAYFAIREXAMPLE", "JUPITERJ", "MISSISSIPPI", "ZZZZ", "ABCDEFGHIJ", alphabet, "ZYXWVUTSRQPONMLKJIHGFEDCBA", "QWERTZUIOPASDFGHJKLYXCVBNM", alphabet + alphabet}

func fault(e api.Errno, at int) api.Fault { return api.Fault{Err: e, At: at} }

func wantText(t *testing.T, what, got string, f api.Fault, want string, wantFault api.Fault) {
	t.Helper()
	if got != want || f != wantFault {
		t.Errorf("%s = %.40q of %d bytes, %v; want %.40q of %d bytes, %v", what, got, len(got), f, want, len(want), wantFault)
	}
}

func wantSheet(t *testing.T, key, want string, wantFault api.Fault) {
	t.Helper()
	got, f := Sheet(key)
	wantText(t, "Sheet of "+head(key), got, f, want, wantFault)
}

func wantPairs(t *testing.T, text, want string, wantFault api.Fault) {
	t.Helper()
	got, f := Pairs(text)
	wantText(t, "Pairs of "+head(text), got, f, want, wantFault)
}

func wantWrite(t *testing.T, key, text, want string, wantFault api.Fault) {
	t.Helper()
	got, f := Write(key, text)
	wantText(t, "Write of "+head(text)+" by "+head(key), got, f, want, wantFault)
}

func wantRead(t *testing.T, key, text, want string, wantFault api.Fault) {
	t.Helper()
	got, f := Read(key, text)
	wantText(t, "Read of "+head(text)+" by "+head(key), got, f, want, wantFault)
}

// head keeps what a test tells short.
func head(text string) string { return strconv.Quote(text[:min(len(text), 40)]) }

// someOf takes the first letters alone, so that many are alike.
func someOf(r *rand.Rand, long, first int) string {
	out := make([]byte, long)
	for i := range out {
		out[i] = alphabet[r.Intn(first)]
	}
	return string(out)
}

func someText(r *rand.Rand, long int) string { return someOf(r, long, api.Letters) }

// onlyFirst is the square on paper: letters are struck out that stood ahead of them.
func onlyFirst(key string) string {
	out := ""
	for _, c := range strings.ReplaceAll(key+without, "J", "I") {
		if !strings.ContainsRune(out, c) {
			out += string(c)
		}
	}
	return out
}

// pairsOnPaper puts a filler into the text itself wherever one is missing, from the left to the right.
func pairsOnPaper(text string) string {
	text = strings.ReplaceAll(text, "J", "I")
	for i := 0; i < len(text); i += 2 {
		if i+1 < len(text) && text[i] != text[i+1] {
			continue
		}
		fill := "X"
		if text[i] == 'X' {
			fill = "Q"
		}
		text = text[:i+1] + fill + text[i+1:]
	}
	return text
}

// onPaper is what two letters become in a square that is told row by row. The square is laid four times, two by two, so that a finger needs not begin anew behind an edge.
func onPaper(square string, a, b byte) string {
	var rows []string
	for i := 0; i < 25; i += 5 {
		rows = append(rows, square[i:i+5]+square[i:i+5])
	}
	rows = append(rows, rows...)
	ra, ca := find(rows, a)
	rb, cb := find(rows, b)
	switch {
	case ra == rb:
		return rows[ra][ca+1:ca+2] + rows[rb][cb+1:cb+2]
	case ca == cb:
		return rows[ra+1][ca:ca+1] + rows[rb+1][cb:cb+1]
	}
	return rows[ra][cb:cb+1] + rows[rb][ca:ca+1]
}

func find(rows []string, c byte) (row, column int) {
	for i, r := range rows {
		if k := strings.IndexByte(r, c); k >= 0 {
			return i, k
		}
	}
	return -1, -1
}

func writtenOnPaper(key, text string) string {
	square, pairs := onlyFirst(key), pairsOnPaper(text)
	var out strings.Builder
	for i := 0; i < len(pairs); i += 2 {
		out.WriteString(onPaper(square, pairs[i], pairs[i+1]))
	}
	return out.String()
}

// wrongTexts are what Check refuses, and how.
var wrongTexts = []struct {
	text string
	want api.Fault
}{
	{"a", fault(api.ErrForm, 0)},
	{"PLAyFAIR", fault(api.ErrForm, 3)},
	{"PLAYFAIR ", fault(api.ErrForm, 8)},
	{"P@[", fault(api.ErrForm, 1)},
	{"PL[", fault(api.ErrForm, 2)},
	{"JJj", fault(api.ErrForm, 2)},
	{"PÄ", fault(api.ErrForm, 1)},
	{"AB\x00", fault(api.ErrForm, 2)},
	{"\xff", fault(api.ErrForm, 0)},
	{"AA1", fault(api.ErrForm, 2)},
	{strings.Repeat("A", api.MaxText-1) + "\n", fault(api.ErrForm, api.MaxText-1)},
	{strings.Repeat("A", api.MaxText+1), fault(api.ErrMuch, 0)},
	{strings.Repeat("AB", api.MaxText/2) + "A", fault(api.ErrMuch, 0)},
	{strings.Repeat("a", api.MaxText+1), fault(api.ErrMuch, 0)},
}

func TestQ1Sheet(t *testing.T) {
	for _, c := range []struct{ key, want string }{
		{"", without},
		{"A", without},
		{"PLAYFAIREXAMPLE", "PLAYFIREXMBCDGHKNOQSTUVWZ"},
		{"J", "IABCDEFGHKLMNOPQRSTUVWXYZ"},
		{"I", "IABCDEFGHKLMNOPQRSTUVWXYZ"},
		{"JI", "IABCDEFGHKLMNOPQRSTUVWXYZ"},
		{"IJ", "IABCDEFGHKLMNOPQRSTUVWXYZ"},
		{"ZZZZ", "ZABCDEFGHIKLMNOPQRSTUVWXY"},
		{"MISSISSIPPI", "MISPABCDEFGHKLNOQRTUVWXYZ"},
		{"AJBI", "AIBCDEFGHKLMNOPQRSTUVWXYZ"},
		{"AIBJ", "AIBCDEFGHKLMNOPQRSTUVWXYZ"},
		{alphabet, without},
		{without, without},
		{"ZYXWVUTSRQPONMLKJIHGFEDCBA", "ZYXWVUTSRQPONMLKIHGFEDCBA"},
		{"QWERTZUIOPASDFGHJKLYXCVBNM", "QWERTZUIOPASDFGHKLYXCVBNM"},
	} {
		wantSheet(t, c.key, c.want, api.Fault{})
	}
}

func TestQ1AsOnPaper(t *testing.T) {
	for _, key := range keys {
		wantSheet(t, key, onlyFirst(key), api.Fault{})
	}
	r := rand.New(rand.NewSource(6))
	for range 1000 {
		key := someOf(r, r.Intn(60), 1+r.Intn(api.Letters))
		wantSheet(t, key, onlyFirst(key), api.Fault{})
	}
}

func TestQ1LongestKeys(t *testing.T) {
	many := strings.Repeat("Z", api.MaxText-1)
	wantSheet(t, many+"Y", "ZYABCDEFGHIKLMNOPQRSTUVWX", api.Fault{})
	wantSheet(t, many+"J", "ZIABCDEFGHKLMNOPQRSTUVWXY", api.Fault{})
	wantSheet(t, many+"YX", "", fault(api.ErrMuch, 0))
}

func TestQ1WrongKeys(t *testing.T) {
	for _, c := range wrongTexts {
		wantSheet(t, c.text, "", c.want)
	}
}

func TestQ2Pairs(t *testing.T) {
	for _, c := range []struct{ text, want string }{
		{"", ""},
		{"A", "AX"},
		{"I", "IX"},
		{"J", "IX"},
		{"Q", "QX"},
		{"X", "XQ"},
		{"AB", "AB"},
		{"ABC", "ABCX"},
		{"ABX", "ABXQ"},
		{"HIDETHEGOLDINTHETREESTUMP", "HIDETHEGOLDINTHETREXESTUMP"},
		{"BALLOON", "BALXLOON"},
		{"JAZZ", "IAZXZX"},
		{"AA", "AXAX"},
		{"AAA", "AXAXAX"},
		{"AAB", "AXAB"},
		{"BAAB", "BAAB"},   // alike, but in two pairs
		{"AABB", "AXABBX"}, // the first filler parts the two behind it
		{"AABBB", "AXABBXBX"},
		{"IJ", "IXIX"},
		{"JI", "IXIX"},
		{"JJ", "IXIX"},
		{"II", "IXIX"},
		{"AJIA", "AIIA"},
		{"JAI", "IAIX"},
		{"XX", "XQXQ"},
		{"XXX", "XQXQXQ"},
		{"AXX", "AXXQ"},
		{"XQX", "XQXQ"},
		{"XXQ", "XQXQ"},
		{"XA", "XA"},
		{"AX", "AX"},
		{"AAX", "AXAX"},
		{"AXA", "AXAX"},
		{"XAX", "XAXQ"},
		{"XXA", "XQXA"},
		{"QQ", "QXQX"},
		{"QX", "QX"},
		{"QQXX", "QXQXXQ"},
		{"QXX", "QXXQ"},
	} {
		wantPairs(t, c.text, c.want, api.Fault{})
	}
}

func TestQ2AsOnPaper(t *testing.T) {
	for i := range len(alphabet) {
		for k := range len(alphabet) {
			for _, text := range []string{alphabet[i:i+1] + alphabet[k:k+1], "A" + alphabet[i:i+1] + alphabet[k:k+1]} {
				wantPairs(t, text, pairsOnPaper(text), api.Fault{})
			}
		}
	}
	r := rand.New(rand.NewSource(60))
	for range 2000 {
		text := strings.NewReplacer("A", "X", "B", "J", "C", "I", "D", "Q").Replace(someOf(r, r.Intn(30), 1+r.Intn(6)))
		wantPairs(t, text, pairsOnPaper(text), api.Fault{})
	}
}

// Pairs stay as they are, and no two in them are alike.
func TestQ2PairsOfPairs(t *testing.T) {
	r := rand.New(rand.NewSource(61))
	for range 1000 {
		pairs, _ := Pairs(someOf(r, r.Intn(40), 1+r.Intn(api.Letters)))
		wantPairs(t, pairs, pairs, api.Fault{})
		for i := 0; i < len(pairs); i += 2 {
			if pairs[i] == pairs[i+1] {
				t.Errorf("%q has two alike at %d", pairs, i)
			}
		}
	}
}

func TestQ2JustAsLongAsMaxText(t *testing.T) {
	half := api.MaxText / 2
	for _, c := range []struct{ text, want string }{
		{strings.Repeat("AB", half), strings.Repeat("AB", half)},
		{strings.Repeat("AB", half-1) + "A", strings.Repeat("AB", half-1) + "AX"},
		{strings.Repeat("A", half), strings.Repeat("AX", half)},
		{strings.Repeat("X", half), strings.Repeat("XQ", half)},
		{"A" + strings.Repeat("AB", half-1), "AX" + strings.Repeat("AB", half-1)},
		{"J" + strings.Repeat("IJ", half/2-1) + "J", strings.Repeat("IX", half)},
		{strings.Repeat("AB", half-2) + "CC", strings.Repeat("AB", half-2) + "CXCX"},
	} {
		wantPairs(t, c.text, c.want, api.Fault{})
		wantWrite(t, "PLAYFAIREXAMPLE", c.text, writtenOnPaper("PLAYFAIREXAMPLE", c.want), api.Fault{})
	}
}

func TestQ2LongerThanMaxText(t *testing.T) {
	half := api.MaxText / 2
	for _, text := range []string{
		strings.Repeat("A", half+1),
		strings.Repeat("X", half+1),
		strings.Repeat("I", half) + "J",
		strings.Repeat("A", api.MaxText),
		strings.Repeat("AB", half-1) + "CC",
		"AA" + strings.Repeat("BA", half-1),
		"AA" + strings.Repeat("BA", half-2) + "B" + "B",
		"IJ" + strings.Repeat("AB", half-1),
	} {
		wantPairs(t, text, "", fault(api.ErrMuch, 0))
		wantWrite(t, "PLAYFAIREXAMPLE", text, "", fault(api.ErrMuch, 0))
	}
}

// A byte that is no letter is told ahead of pairs that are too long.
func TestQ2WrongTexts(t *testing.T) {
	for _, c := range wrongTexts {
		wantPairs(t, c.text, "", c.want)
	}
}

func TestQ3Write(t *testing.T) {
	for _, c := range []struct{ key, text, pairs, told string }{
		{"PLAYFAIREXAMPLE", "HIDETHEGOLDINTHETREESTUMP", "HIDETHEGOLDINTHETREXESTUMP", "BMODZBXDNABEKUDMUIXMMOUVIF"},
		{"", "", "", ""},
		{"PLAYFAIREXAMPLE", "", "", ""},
		{"", "A", "AX", "CV"},
		{"", "AB", "AB", "BC"}, // in one row
		{"", "BA", "BA", "CB"},
		{"", "DE", "DE", "EA"}, // the row's last letter
		{"", "ED", "ED", "AE"},
		{"", "AE", "AE", "BA"},
		{"", "YZ", "YZ", "ZV"},
		{"", "AF", "AF", "FL"}, // in one column
		{"", "FA", "FA", "LF"},
		{"", "QV", "QV", "VA"}, // the column's last letter
		{"", "VQ", "VQ", "AV"},
		{"", "AV", "AV", "FA"},
		{"", "UZ", "UZ", "ZE"},
		{"", "AG", "AG", "BF"}, // in neither
		{"", "GA", "GA", "FB"},
		{"", "AZ", "AZ", "EV"},
		{"", "EV", "EV", "AZ"},
		{"", "JA", "IA", "FD"},
		{"", "AJ", "AI", "DF"},
		{"", "IJ", "IXIX", "HYHY"},
		{"JIJI", "JAZZ", "IAZXZX", "ABVYVY"},
		{"", "XX", "XQXQ", "VSVS"},
	} {
		wantWrite(t, c.key, c.text, c.told, api.Fault{})
		wantRead(t, c.key, c.told, c.pairs, api.Fault{})
	}
}

// Each pair that there is, in some squares: what Write makes of it is read, and no other pair becomes it.
func TestQ3EachPair(t *testing.T) {
	for _, key := range keys {
		square := onlyFirst(key)
		known := map[string]string{}
		for _, a := range []byte(without) {
			for _, b := range []byte(without) {
				if a == b {
					continue
				}
				pair := string([]byte{a, b})
				told := onPaper(square, a, b)
				wantWrite(t, key, pair, told, api.Fault{})
				wantRead(t, key, told, pair, api.Fault{})
				if told[0] == a || told[1] == b {
					t.Errorf("%q becomes %q: a letter stands for itself", pair, told)
				}
				if known[told] != "" {
					t.Errorf("%q and %q become %q", known[told], pair, told)
				}
				known[told] = pair
			}
		}
	}
}

func TestQ3AsOnPaper(t *testing.T) {
	r := rand.New(rand.NewSource(62))
	for range 1000 {
		key, text := someText(r, r.Intn(30)), someOf(r, r.Intn(60), 1+r.Intn(api.Letters))
		told := writtenOnPaper(key, text)
		wantWrite(t, key, text, told, api.Fault{})
		wantRead(t, key, told, pairsOnPaper(text), api.Fault{})
	}
}

// What is read is written again, also where it has pairs that no filler has made.
func TestQ3ReadIsWrittenAgain(t *testing.T) {
	r := rand.New(rand.NewSource(63))
	for range 1000 {
		key, text := someText(r, r.Intn(30)), pairsOnPaper(someText(r, r.Intn(60)))
		read, f := Read(key, text)
		if f != (api.Fault{}) {
			t.Errorf("Read of %s by %s: %v", head(text), head(key), f)
		}
		wantWrite(t, key, read, text, api.Fault{})
	}
}

func TestQ3LongestTexts(t *testing.T) {
	r := rand.New(rand.NewSource(64))
	key := someText(r, api.MaxText)
	var text []byte
	for len(text) < api.MaxText {
		if a, b := without[r.Intn(25)], without[r.Intn(25)]; a != b {
			text = append(text, a, b)
		}
	}
	told := writtenOnPaper(key, string(text))
	wantWrite(t, key, string(text), told, api.Fault{})
	wantRead(t, key, told, string(text), api.Fault{})
	wantWrite(t, key, string(text)+"A", "", fault(api.ErrMuch, 0))
	wantRead(t, key, told+"A", "", fault(api.ErrMuch, 0))
	wantRead(t, key, told+"AB", "", fault(api.ErrMuch, 0))
	wantRead(t, key, told[1:], "", fault(api.ErrFit, api.MaxText-1))
}

func TestQ3ReadOddTexts(t *testing.T) {
	for _, key := range keys {
		// Whatever else is wrong stands behind the text's end in the order.
		for _, text := range []string{"A", "J", "ABC", "JAB", "AJB", "AAB", "ABJ", "JJJ", "AAAAA", "HIDETHEGOLDINTHETREESTUMP"} {
			wantRead(t, key, text, "", fault(api.ErrFit, len(text)))
		}
	}
}

func TestQ3ReadWhatNoPairBecomes(t *testing.T) {
	for _, c := range []struct {
		text string
		at   int
	}{
		{"JA", 0},
		{"AJ", 1},
		{"JI", 0},
		{"IJ", 1},
		{"JJ", 0},
		{"II", 1},
		{"AA", 1},
		{"XX", 1},
		{"ZZ", 1},
		{"ABJC", 2},
		{"ABCJ", 3},
		{"ABCC", 3},
		{"AAJB", 1}, // the first one is told, whichever it is
		{"JBAA", 0},
		{"AJBB", 1},
		{"ABBJAA", 3},
		{"ABBBJA", 3},
		{"AABB", 1},
		{strings.Repeat("AB", api.MaxText/2-1) + "AA", api.MaxText - 1},
		{strings.Repeat("AB", api.MaxText/2-1) + "JA", api.MaxText - 2},
		{strings.Repeat("A", api.MaxText), 1},
	} {
		for _, key := range keys {
			wantRead(t, key, c.text, "", fault(api.ErrFit, c.at))
		}
	}
	for i := range len(without) {
		wantRead(t, "PLAYFAIREXAMPLE", "AB"+strings.Repeat(without[i:i+1], 2), "", fault(api.ErrFit, 3))
	}
}

// Two alike in two pairs are read.
func TestQ3ReadAlikeInTwoPairs(t *testing.T) {
	wantRead(t, "", "BAAB", "AEEA", api.Fault{})
	wantRead(t, "", "FAAF", "AVVA", api.Fault{})
	for _, key := range keys {
		for i := range len(without) {
			c := without[i]
			pairs := []byte{without[(i+1)%25], c, c, without[(i+7)%25]}
			told := onPaper(onlyFirst(key), pairs[0], c) + onPaper(onlyFirst(key), c, pairs[3])
			wantRead(t, key, told, string(pairs), api.Fault{})
		}
	}
}

// The key is told ahead of the text, whatever is wrong with either.
func TestQ3WrongKeys(t *testing.T) {
	long := strings.Repeat("A", api.MaxText+1)
	for _, c := range wrongTexts {
		for _, text := range []string{"ABCD", "", "A", "JA", "AA", "AB cd", "a", long, long[1:]} {
			wantWrite(t, c.text, text, "", c.want)
			wantRead(t, c.text, text, "", c.want)
		}
	}
}

func TestQ3WrongTexts(t *testing.T) {
	for _, key := range keys {
		for _, c := range wrongTexts {
			wantWrite(t, key, c.text, "", c.want)
			wantRead(t, key, c.text, "", c.want)
		}
		// A byte that is no letter is told ahead of what doesn't fit.
		wantRead(t, key, "JAa", "", fault(api.ErrForm, 2))
		wantRead(t, key, "AA?B", "", fault(api.ErrForm, 2))
	}
}

// What is handed in may be changed as soon as the call has answered.
func TestE2NothingIsKept(t *testing.T) {
	key, text, hidden := []byte("PLAYFAIREXAMPLE"), []byte("HIDETHEGOLDINTHETREX"), []byte("BMODZBXDNABEKUDMUIXM")
	sheet, _ := Sheet(unsafe.String(&key[0], len(key)))
	pairs, _ := Pairs(unsafe.String(&text[0], len(text)))
	told, _ := Write(unsafe.String(&key[0], len(key)), unsafe.String(&text[0], len(text)))
	read, _ := Read(unsafe.String(&key[0], len(key)), unsafe.String(&hidden[0], len(hidden)))
	for _, given := range [][]byte{key, text, hidden} {
		for i := range given {
			given[i] = 'Q'
		}
	}
	for _, c := range [][2]string{{sheet, "PLAYFIREXMBCDGHKNOQSTUVWZ"}, {pairs, "HIDETHEGOLDINTHETREX"}, {told, "BMODZBXDNABEKUDMUIXM"}, {read, "HIDETHEGOLDINTHETREX"}} {
		if c[0] != c[1] {
			t.Errorf("%q comes, not %q: what was handed in has been kept", c[0], c[1])
		}
	}
}
