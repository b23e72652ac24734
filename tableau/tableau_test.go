package tableau

import (
	"math"
	"math/rand"
	"strconv"
	"strings"
	"testing"
	"unsafe"

	"blackroom/api"
)

const alphabet = "ABCDEFGHIJKLMNOPQRSTUVWXYZ"

var (
	kinds   = []int{api.Vigenere, api.Beaufort, api.Variant, api.Autokey}
	keyable = []int{api.Vigenere, api.Beaufort, api.Variant} // of which Key knows
	noKinds = []int{0, 5, 6, -1, -4, 100, 256 + api.Vigenere, 1<<32 + api.Vigenere, math.MinInt, math.MaxInt}
)

func fault(e api.Errno, at int) api.Fault { return api.Fault{Err: e, At: at} }

func wantText(t *testing.T, what, got string, f api.Fault, want string, wantFault api.Fault) {
	t.Helper()
	if got != want || f != wantFault {
		t.Errorf("%s = %.40q of %d bytes, %v; want %.40q of %d bytes, %v", what, got, len(got), f, want, len(want), wantFault)
	}
}

func wantWrite(t *testing.T, kind int, key, text, want string, wantFault api.Fault) {
	t.Helper()
	got, f := Write(kind, key, text)
	wantText(t, "Write of "+head(text)+" by "+head(key), got, f, want, wantFault)
}

func wantRead(t *testing.T, kind int, key, text, want string, wantFault api.Fault) {
	t.Helper()
	got, f := Read(kind, key, text)
	wantText(t, "Read of "+head(text)+" by "+head(key), got, f, want, wantFault)
}

func wantKey(t *testing.T, kind, long int, text, told, want string, wantFault api.Fault) {
	t.Helper()
	got, f := Key(kind, long, text, told)
	wantText(t, "Key of "+head(text)+" and "+head(told), got, f, want, wantFault)
}

// head keeps what a test tells short.
func head(text string) string { return strconv.Quote(text[:min(len(text), 40)]) }

func someText(r *rand.Rand, long int) string { return someOf(r, long, api.Letters) }

// someOf takes the first letters alone, so that pieces come again.
func someOf(r *rand.Rand, long, first int) string {
	out := make([]byte, long)
	for i := range out {
		out[i] = alphabet[r.Intn(first)]
	}
	return string(out)
}

// inRow is the letter below top, in the tableau's row that begins with side: each row is the alphabet, begun one letter later.
func inRow(side, top byte) byte {
	i := strings.IndexByte(alphabet, side)
	return (alphabet[i:] + alphabet[:i])[strings.IndexByte(alphabet, top)]
}

// sideOf is the row in which seen stands below top.
func sideOf(top, seen byte) byte {
	for i := range len(alphabet) {
		if inRow(alphabet[i], top) == seen {
			return alphabet[i]
		}
	}
	return '?'
}

// onPaper writes as it was done with a tableau on paper, by a finger on rows and columns.
func onPaper(kind int, key, text string) string {
	stream := key + text
	if kind != api.Autokey {
		stream = strings.Repeat(key, len(text)/len(key)+1)
	}
	out := make([]byte, len(text))
	for i := range out {
		switch kind {
		case api.Vigenere, api.Autokey:
			out[i] = inRow(stream[i], text[i])
		case api.Beaufort:
			out[i] = sideOf(text[i], stream[i])
		case api.Variant:
			out[i] = sideOf(stream[i], text[i])
		}
	}
	return string(out)
}

func TestT1Write(t *testing.T) {
	for _, c := range []struct {
		kind            int
		key, text, told string
	}{
		{api.Vigenere, "LEMON", "ATTACKATDAWN", "LXFOPVEFRNHR"},
		{api.Beaufort, "LEMON", "ATTACKATDAWN", "LLTOLBETLNPR"},
		{api.Variant, "LEMON", "ATTACKATDAWN", "PPHMPZWHPNLJ"},
		{api.Autokey, "LEMON", "ATTACKATDAWN", "LXFOPKTMDCGN"},
		{api.Autokey, "QUEENLY", "ATTACKATDAWN", "QNXEPVYTWTWP"},
		{api.Vigenere, "B", "HALZ", "IBMA"},
		{api.Beaufort, "B", "HALZ", "UBQC"},
		{api.Variant, "B", "HALZ", "GZKY"},
		{api.Autokey, "B", "HALZ", "IHLK"},
		{api.Vigenere, "A", alphabet, alphabet},
		{api.Variant, "A", alphabet, alphabet},
		{api.Beaufort, "Z", alphabet, "ZYXWVUTSRQPONMLKJIHGFEDCBA"},
		{api.Autokey, "A", "ABCDEF", "ABDFHJ"},
		{api.Vigenere, "Z", "Z", "Y"},
		{api.Beaufort, "A", "Z", "B"},
		{api.Variant, "Z", "A", "B"},
	} {
		wantWrite(t, c.kind, c.key, c.text, c.told, api.Fault{})
		wantRead(t, c.kind, c.key, c.told, c.text, api.Fault{})
	}
}

func TestT1EachLetterByEach(t *testing.T) {
	for _, kind := range kinds {
		for i := range len(alphabet) {
			for k := range len(alphabet) {
				key, text := alphabet[i:i+1], alphabet[k:k+1]
				wantWrite(t, kind, key, text, onPaper(kind, key, text), api.Fault{})
				wantRead(t, kind, key, onPaper(kind, key, text), text, api.Fault{})
			}
		}
	}
}

func TestT1AsOnPaper(t *testing.T) {
	r := rand.New(rand.NewSource(5))
	for _, kind := range kinds {
		for range 400 {
			key, text := someText(r, 1+r.Intn(20)), someText(r, r.Intn(60))
			told := onPaper(kind, key, text)
			wantWrite(t, kind, key, text, told, api.Fault{})
			wantRead(t, kind, key, told, text, api.Fault{})
		}
	}
}

// The text ends ahead of the key, with it, one letter behind it, and one letter behind the second time that it, or the text, came.
func TestT1LengthsOfKeyAndText(t *testing.T) {
	r := rand.New(rand.NewSource(50))
	for _, kind := range kinds {
		for _, long := range []int{1, 2, 7, 255, api.MaxKey} {
			key := someText(r, long)
			for _, n := range []int{0, 1, long - 1, long, long + 1, 2*long - 1, 2 * long, 2*long + 1, 5*long + 3} {
				text := someText(r, n)
				told := onPaper(kind, key, text)
				wantWrite(t, kind, key, text, told, api.Fault{})
				wantRead(t, kind, key, told, text, api.Fault{})
			}
		}
	}
}

func TestT1LongestTexts(t *testing.T) {
	r := rand.New(rand.NewSource(65536))
	for _, kind := range kinds {
		for _, long := range []int{1, 3, api.MaxKey} {
			key, text := someText(r, long), someText(r, api.MaxText)
			told := onPaper(kind, key, text)
			wantWrite(t, kind, key, text, told, api.Fault{})
			wantRead(t, kind, key, told, text, api.Fault{})
			for _, wrong := range []string{text + "A", strings.Repeat("a", api.MaxText+1)} {
				wantWrite(t, kind, key, wrong, "", fault(api.ErrMuch, 0))
				wantRead(t, kind, key, wrong, "", fault(api.ErrMuch, 0))
			}
		}
	}
}

// Beaufort undoes itself; Vigenere and Variant undo each other.
func TestT1OneUndoesTheOther(t *testing.T) {
	r := rand.New(rand.NewSource(51))
	for _, pair := range [][2]int{{api.Beaufort, api.Beaufort}, {api.Vigenere, api.Variant}, {api.Variant, api.Vigenere}} {
		for range 100 {
			key, text := someText(r, 1+r.Intn(20)), someText(r, r.Intn(60))
			told, _ := Write(pair[0], key, text)
			wantWrite(t, pair[1], key, told, text, api.Fault{})
		}
	}
}

func TestT1NoSuchKind(t *testing.T) {
	long := strings.Repeat("A", api.MaxText+1)
	for _, kind := range noKinds {
		for _, x := range [][2]string{{"LEMON", "ATTACK"}, {"LEMON", ""}, {"", "ATTACK"}, {"", ""}, {"Le", "ATTACK"}, {"LEMON", "At"}, {long, "A"}, {"A", long}} {
			wantWrite(t, kind, x[0], x[1], "", fault(api.ErrKind, 0))
			wantRead(t, kind, x[0], x[1], "", fault(api.ErrKind, 0))
		}
	}
}

// wrongTexts are what Check refuses, and how.
var wrongTexts = []struct {
	text string
	want api.Fault
}{
	{"a", fault(api.ErrForm, 0)},
	{"LEMoN", fault(api.ErrForm, 3)},
	{"LEMON ", fault(api.ErrForm, 5)},
	{"L@[", fault(api.ErrForm, 1)},
	{"LE[", fault(api.ErrForm, 2)},
	{"LEMÖN", fault(api.ErrForm, 3)},
	{"LEM\x00", fault(api.ErrForm, 3)},
	{"\xff", fault(api.ErrForm, 0)},
	{strings.Repeat("A", api.MaxKey) + "1", fault(api.ErrForm, api.MaxKey)},
	{strings.Repeat("A", api.MaxText-1) + "\n", fault(api.ErrForm, api.MaxText-1)},
	{strings.Repeat("A", api.MaxText+1), fault(api.ErrMuch, 0)},
	{strings.Repeat("a", api.MaxText+1), fault(api.ErrMuch, 0)},
}

func TestT1WrongKeys(t *testing.T) {
	for _, kind := range kinds {
		for _, text := range []string{"ATTACK", "", "AT tack", strings.Repeat("A", api.MaxText+1)} {
			for _, c := range wrongTexts {
				wantWrite(t, kind, c.text, text, "", c.want)
				wantRead(t, kind, c.text, text, "", c.want)
			}
			for _, long := range []int{0, api.MaxKey + 1, 2 * api.MaxKey, api.MaxText} {
				key := strings.Repeat("K", long)
				wantWrite(t, kind, key, text, "", fault(api.ErrMany, 0))
				wantRead(t, kind, key, text, "", fault(api.ErrMany, 0))
			}
		}
	}
}

func TestT1WrongTexts(t *testing.T) {
	for _, kind := range kinds {
		for _, key := range []string{"A", "LEMON", strings.Repeat("K", api.MaxKey)} {
			for _, c := range wrongTexts {
				wantWrite(t, kind, key, c.text, "", c.want)
				wantRead(t, kind, key, c.text, "", c.want)
			}
		}
	}
}

func TestT2Key(t *testing.T) {
	for _, c := range []struct {
		kind             int
		text, told, want string
	}{
		{api.Vigenere, "ATTACKATDAWN", "LXFOPVEFRNHR", "LEMON"},
		{api.Beaufort, "ATTACKATDAWN", "LLTOLBETLNPR", "LEMON"},
		{api.Variant, "ATTACKATDAWN", "PPHMPZWHPNLJ", "LEMON"},
		{api.Vigenere, "HAL", "IBM", "B"},
		{api.Beaufort, "HAL", "UBQ", "B"},
		{api.Variant, "HAL", "GZK", "B"},
		{api.Vigenere, "HAL", "IBM", "BB"},
		{api.Vigenere, "HAL", "IBM", "BBB"},
		{api.Vigenere, "ZZ", "AA", "B"},
		{api.Beaufort, "ZZ", "AA", "Z"},
		{api.Variant, "AA", "ZZ", "B"},
	} {
		wantKey(t, c.kind, len(c.want), c.text, c.told, c.want, api.Fault{})
	}
}

func TestT2KeyOfWhatWasWritten(t *testing.T) {
	r := rand.New(rand.NewSource(52))
	for _, kind := range keyable {
		for long := 1; long <= api.MaxKey; long++ {
			key := someText(r, long)
			for _, n := range []int{long, long + 1, 2*long - 1, 2 * long, 3*long + 1} {
				text := someText(r, n)
				wantKey(t, kind, long, text, onPaper(kind, key, text), key, api.Fault{})
			}
		}
		key, text := someText(r, api.MaxKey), someText(r, api.MaxText)
		wantKey(t, kind, api.MaxKey, text, onPaper(kind, key, text), key, api.Fault{})
	}
}

// Each letter that the key's length doesn't reach may tell that there is no key.
func TestT2KeyOneLetterOff(t *testing.T) {
	r := rand.New(rand.NewSource(53))
	for _, kind := range keyable {
		for _, long := range []int{1, 2, 5} {
			key, text := someText(r, long), someText(r, 3*long+1)
			told := []byte(onPaper(kind, key, text))
			for i := long; i < len(told); i++ {
				was := told[i]
				told[i] = inRow('B', was)
				wantKey(t, kind, long, text, string(told), "", fault(api.ErrNone, 0))
				told[i] = was
			}
		}
	}
}

// By all keys: there is one, and then only one, or there is none.
func TestT2KeyByTryingAll(t *testing.T) {
	r := rand.New(rand.NewSource(54))
	none := 0
	for _, kind := range keyable {
		for i := range 60 {
			text, told := someText(r, 1+i%3), someText(r, 1+i%3)
			for long := 1; long <= min(2, len(text)); long++ {
				want := keysByTrying(kind, long, text, told)
				if len(want) > 1 {
					t.Fatalf("%q becomes %q by %q", text, told, want)
				}
				if len(want) == 0 {
					none++
					wantKey(t, kind, long, text, told, "", fault(api.ErrNone, 0))
				} else {
					wantKey(t, kind, long, text, told, want[0], api.Fault{})
				}
			}
		}
	}
	if none == 0 {
		t.Error("there always is a key: both cases are to be looked at")
	}
}

func keysByTrying(kind, long int, text, told string) []string {
	found := []string{}
	keys := []string{""}
	for range long {
		var more []string
		for _, key := range keys {
			for i := range len(alphabet) {
				more = append(more, key+alphabet[i:i+1])
			}
		}
		keys = more
	}
	for _, key := range keys {
		if onPaper(kind, key, text) == told {
			found = append(found, key)
		}
	}
	return found
}

func TestT2KeyWrongKinds(t *testing.T) {
	long := strings.Repeat("A", api.MaxText+1)
	for _, x := range [][2]string{{"HAL", "IBM"}, {"", ""}, {"HAL", "IB"}, {"hAL", "IBM"}, {"HAL", "IbM"}, {long, "A"}, {"A", long}} {
		for _, kind := range noKinds {
			wantKey(t, kind, 1, x[0], x[1], "", fault(api.ErrKind, 0))
			wantKey(t, kind, api.MaxKey, x[0], x[1], "", fault(api.ErrKind, 0))
		}
		for _, n := range append([]int{1, 3, api.MaxKey}, notLong...) {
			wantKey(t, api.Autokey, n, x[0], x[1], "", fault(api.ErrKind, 0))
		}
	}
}

var notLong = []int{0, -1, api.MaxKey + 1, 1 << 32, 1<<32 + 1, math.MinInt, math.MaxInt}

// A length that is none is told ahead of all but an autokey: of a kind that is none, too.
func TestT2KeyWrongLengths(t *testing.T) {
	long := strings.Repeat("A", api.MaxText+1)
	for _, n := range notLong {
		for _, kind := range append(noKinds, keyable...) {
			for _, x := range [][2]string{{"HAL", "IBM"}, {"", ""}, {"HAL", "IB"}, {"hAL", "IBM"}, {"HAL", "IbM"}, {long, long}} {
				wantKey(t, kind, n, x[0], x[1], "", fault(api.ErrMany, 0))
			}
		}
	}
}

func TestT2KeyWrongTexts(t *testing.T) {
	for _, kind := range keyable {
		for _, n := range []int{1, 5, api.MaxKey} {
			for _, c := range wrongTexts {
				for _, other := range []string{"", "A", "LEMON", strings.Repeat("A", len(c.text)%api.MaxText)} {
					wantKey(t, kind, n, c.text, other, "", c.want)
					wantKey(t, kind, n, other, c.text, "", c.want)
				}
				wantKey(t, kind, n, c.text, "LE MON", "", c.want)
				wantKey(t, kind, n, "LE MON", c.text, "", fault(api.ErrForm, 2))
			}
		}
	}
}

func TestT2KeyTextsThatDoNotFit(t *testing.T) {
	full := strings.Repeat("A", api.MaxText)
	for _, kind := range keyable {
		for _, c := range []struct {
			long       int
			text, told string
		}{
			{1, "", ""},
			{1, "", "A"},
			{1, "A", ""},
			{1, "AB", "ABC"},
			{1, "ABC", "AB"},
			{2, "A", "A"},
			{3, "AB", "AB"},
			{3, "AB", "ABC"},
			{3, "ABC", "AB"},
			{api.MaxKey, full[:api.MaxKey-1], full[:api.MaxKey-1]},
			{api.MaxKey, full[:api.MaxKey], full[:api.MaxKey+1]},
			{1, full, full[1:]},
			{1, full[1:], full},
			{1, "AAA", "AB"}, // and there is no key
		} {
			wantKey(t, kind, c.long, c.text, c.told, "", fault(api.ErrFit, 0))
		}
		want, _ := Write(kind, full[:api.MaxKey], full[:api.MaxKey])
		wantKey(t, kind, api.MaxKey, full[:api.MaxKey], want, full[:api.MaxKey], api.Fault{})
	}
}

// What is handed in may be changed as soon as the call has answered.
func TestE2TextsAreNotKept(t *testing.T) {
	calls := map[string]func(key, text string) (string, api.Fault){
		"Write": func(key, text string) (string, api.Fault) { return Write(api.Vigenere, key, text) },
		"Read":  func(key, text string) (string, api.Fault) { return Read(api.Variant, key, text) },
		"Key":   func(key, text string) (string, api.Fault) { return Key(api.Vigenere, 3, key, text) },
	}
	for name, call := range calls {
		key, text := []byte("AAA"), []byte("HAL")
		got, f := call(unsafe.String(&key[0], len(key)), unsafe.String(&text[0], len(text)))
		copy(key, "ZZZ")
		copy(text, "ZZZ")
		wantText(t, name+", when its arguments have changed", got, f, "HAL", api.Fault{})
	}
}
