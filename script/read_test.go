package script

import (
	"math/rand"
	"reflect"
	"regexp"
	"strconv"
	"strings"
	"testing"
	"unsafe"

	"blackroom/api"
	"blackroom/perm"
	"blackroom/rotor"
)

func wantRead(t *testing.T, text string, want []api.Step, wantFault api.Fault) {
	t.Helper()
	got, f := Read(text)
	if len(got) != len(want) || len(got) > 0 && !reflect.DeepEqual(got, want) || f != wantFault {
		t.Errorf("Read(%q) = %v, %v; want %v, %v", head(text), got, f, want, wantFault)
	}
}

// wantMarked is told of a text with a ^ ahead of the byte at which it is wrong.
func wantMarked(t *testing.T, marked string, err api.Errno) {
	t.Helper()
	before, behind, ok := strings.Cut(marked, "^")
	if !ok {
		t.Fatalf("%q has no mark", marked)
	}
	wantRead(t, before+behind, nil, fault(err, len(before)))
}

func TestS4Steps(t *testing.T) {
	wantRead(t, "move 1", []api.Step{{Kind: 1, N: 1}}, api.Fault{})
	wantRead(t, "move 0", []api.Step{{Kind: 1}}, api.Fault{})
	wantRead(t, "move 25", []api.Step{{Kind: 1, N: 25}}, api.Fault{})
	wantRead(t, "vigenere LEMON", []api.Step{{Kind: 2, N: 1, Key: "LEMON"}}, api.Fault{})
	wantRead(t, "beaufort LEMON", []api.Step{{Kind: 2, N: 2, Key: "LEMON"}}, api.Fault{})
	wantRead(t, "variant LEMON", []api.Step{{Kind: 2, N: 3, Key: "LEMON"}}, api.Fault{})
	wantRead(t, "autokey LEMON", []api.Step{{Kind: 2, N: 4, Key: "LEMON"}}, api.Fault{})
	wantRead(t, "rail 1", []api.Step{{Kind: 3, N: 1}}, api.Fault{})
	wantRead(t, "rail 64", []api.Step{{Kind: 3, N: 64}}, api.Fault{})
	wantRead(t, "columns ZEBRA", []api.Step{{Kind: 4, Key: "ZEBRA"}}, api.Fault{})
	wantRead(t, "columns "+strings.Repeat("Q", 256), []api.Step{{Kind: 4, Key: strings.Repeat("Q", 256)}}, api.Fault{})
	wantRead(t, "hill 1 25", []api.Step{{Kind: 5, Matrix: [][]int{{25}}}}, api.Fault{})
	wantRead(t, "hill 2 3 3 2 5", []api.Step{{Kind: 5, Matrix: [][]int{{3, 3}, {2, 5}}}}, api.Fault{})
	wantRead(t, "hill 3 1 2 3 4 5 6 7 8 9", []api.Step{{Kind: 5, Matrix: [][]int{{1, 2, 3}, {4, 5, 6}, {7, 8, 9}}}}, api.Fault{})
	wantRead(t, "rotor V,I C ZA BY (AB)", []api.Step{{Kind: 6, Machine: machine(t, "V,I", "C", "ZA", "BY", "(AB)")}}, api.Fault{})
	wantRead(t, "rotor I,I,I,I B AAAA ZZZZ", []api.Step{{Kind: 6, Machine: machine(t, "I,I,I,I", "B", "AAAA", "ZZZZ", "")}}, api.Fault{})
	wantRead(t, "hill 1 2 | move 1", []api.Step{{Kind: 5, Matrix: [][]int{{2}}}, {Kind: 1, N: 1}}, api.Fault{})
	wantRead(t, strings.Repeat("move 1 | ", 63)+"move 1", many(64, move(1)), api.Fault{})
}

// Plugs may be written in any way that chapter 2 reads; without any each letter is plugged to itself.
func TestS4Plugs(t *testing.T) {
	for written, same := range map[string]string{"": "", " (A)": "", " (A)(B)(Z)": "", " (AB)": "(AB)", " (ZY)(BA)": "(AB)(YZ)", " (C)(BA)": "(AB)"} {
		want := turned(machine(t, "I", "B", "A", "A", same))
		wantRead(t, "rotor I B A A"+written, chain(want), api.Fault{})
		wantRead(t, "rotor I B A A"+written+" | move 1", chain(want, move(1)), api.Fault{})
	}
	wantMarked(t, "rotor I B A A ^x", api.ErrForm)
	wantMarked(t, "rotor I B A A ^AB", api.ErrForm)
	wantMarked(t, "rotor I B A A (^)", api.ErrForm)
	wantMarked(t, "rotor I B A A (AB^", api.ErrForm)
	wantMarked(t, "rotor I B A A (AB^ CD)", api.ErrForm)
	wantMarked(t, "rotor I B A A (AB^ | move 1", api.ErrForm)
	wantMarked(t, "rotor I B A A (AB)(C^d)", api.ErrForm)
	wantMarked(t, "rotor I B A A (AB)^|", api.ErrForm)
	wantMarked(t, "rotor I B A A ^|| move 1", api.ErrForm)
	wantMarked(t, "rotor I B A A ^|(AB)", api.ErrForm)
	wantMarked(t, "rotor I B A A (AB)(C^A)", api.ErrFit)
	wantMarked(t, "rotor I B A A (A^A)", api.ErrFit)
	wantMarked(t, "rotor I B A A (ABC)(D^A", api.ErrFit)
	wantMarked(t, "rotor I B A A ^(ABC)", api.ErrKind)
	wantMarked(t, "rotor I B A A ^(AB)(CDEF)", api.ErrKind)
	wantMarked(t, "rotor I B A A (ABC)^x", api.ErrForm)
	wantMarked(t, "move 1 | rotor I,II B AA AA ^(ABC) | move 1", api.ErrKind)
	wantMarked(t, "rotor I B A A (AB) ^(CD)", api.ErrForm)
	wantMarked(t, "rotor I B A A (AB) ^x", api.ErrForm)
}

func TestS4TooMuch(t *testing.T) {
	for _, text := range []string{strings.Repeat("x", 65537), strings.Repeat(" ", 65537), "move 1 |" + strings.Repeat(" ", 65536), strings.Repeat("move 1 | ", 8000)} {
		wantRead(t, text, nil, fault(api.ErrMuch, 0))
	}
	wantMarked(t, "^"+strings.Repeat("x", 65536), api.ErrName)
	wantMarked(t, "^"+strings.Repeat(" ", 65536), api.ErrForm)
	wantMarked(t, "move 1 ^"+strings.Repeat("|", 65529), api.ErrForm)
	wantMarked(t, "move ^"+strings.Repeat("9", 65531), api.ErrRange)
	wantMarked(t, "rotor ^"+strings.Repeat("I,", 32764)+"I", api.ErrMany)
	wantMarked(t, "rotor "+strings.Repeat("I,", 32765)+"^", api.ErrName)
}

func TestS4WordsThatAreEmptyOrMissing(t *testing.T) {
	for _, marked := range []string{"^", "^ ", "^  ", "^ move 1", "^ |", "move^", "move ^", "move ^ ", "move ^ 1", "move 1 ^", "move 1 ^ ", "move 1 ^ | move 2", "move 1 |^", "move 1 | ^", "move 1 | ^ move 2", "move 1 | move^", "move 1 | move 2 ^", "vigenere^", "autokey ^", "rail^", "rail ^", "columns^", "columns ^", "hill^", "hill ^", "hill 1^", "hill 1 ^", "hill 2 1 2 3^", "hill 2 1 2 3 ^", "hill 2 1 ^ 2 3 4", "rotor^", "rotor ^", "rotor ^ B A A", "rotor I^", "rotor I ^", "rotor I B^", "rotor I B ^", "rotor I B A^", "rotor I B A ^", "rotor I B A A ^", "rotor I B A A ^ (AB)", "rotor I B A A (AB) ^", "rotor I B A A |^", "rotor I B A A | ^", "rotor I B A A (AB) |^"} {
		wantMarked(t, marked, api.ErrForm)
	}
}

func TestS4Names(t *testing.T) {
	for _, name := range []string{"caesar", "Move", "MOVE", "mov", "movee", "move1", "move|", "|", "||", "1", "tableau", "vigenère", "Vigenere", "variants", "auto", "rails", "column", "hills", "rotors", "\tmove", "move\t1", "move\n", "move\x00", "\xff", "(AB)"} {
		wantMarked(t, "^"+name, api.ErrName)
		wantMarked(t, "^"+name+" 1", api.ErrName)
		wantMarked(t, "^"+name+"  1", api.ErrName)
		wantMarked(t, "move 1 | ^"+name+" 1", api.ErrName)
		wantMarked(t, "rotor I B A A (AB) | ^"+name+" |", api.ErrName)
	}
}

// notNumbers are words that are none, and such that would be if they were written otherwise.
var notNumbers = []string{"x", "|", "-1", "+1", "-0", "00", "01", "03", "007", "000000", "1.0", "1e1", "0x1", "1_0", "1,2", "1\x00", "1\t", "１", "1a", "a1", "ten", "(AB)", "99999999999999999999999x", "099999999999999999999999"}

// tooGreat are numbers that nothing allows.
var tooGreat = []string{"65", "66", "100", "256", "65536", "2147483648", "4294967297", "9223372036854775807", "9223372036854775808", "18446744073709551617", "99999999999999999999999"}

func TestS4Numbers(t *testing.T) {
	for _, ahead := range []string{"move ", "rail ", "hill ", "hill 1 ", "hill 2 1 ", "hill 2 1 2 3 ", "move 1 | move ", "rotor I B A A | rail "} {
		for _, text := range notNumbers {
			wantMarked(t, ahead+"^"+text, api.ErrForm)
			wantMarked(t, ahead+"^"+text+" | move 1", api.ErrForm)
		}
		for _, text := range tooGreat {
			wantMarked(t, ahead+"^"+text, api.ErrRange)
			wantMarked(t, ahead+"^"+text+"  x", api.ErrRange)
		}
	}
	for _, marked := range []string{"move ^26", "move ^27", "move ^64", "rail ^0", "rail ^65", "hill ^0", "hill ^5", "hill ^5 x", "hill ^25", "hill 1 ^26", "hill 2 ^26 x", "hill 2 1 2 3 ^26"} {
		wantMarked(t, marked, api.ErrRange)
	}
	wantMarked(t, "hill 2 1 ^x 26", api.ErrForm)
	wantMarked(t, "hill 2 1 2 3 ^| move 1", api.ErrForm)
}

func TestS4Keys(t *testing.T) {
	long := strings.Repeat("Q", 257)
	for _, name := range []string{"vigenere ", "beaufort ", "variant ", "autokey ", "columns ", "move 1 | columns "} {
		for _, key := range []string{"a", "lemon", "LEMOn", "1", "|", "A,B", "A\tB", "Ä", "\xff", "A\x00", "@", "[", long + "q", "q" + long} {
			wantMarked(t, name+"^"+key, api.ErrForm)
			wantMarked(t, name+"^"+key+" | move 1", api.ErrForm)
		}
		wantMarked(t, name+"^"+long, api.ErrMany)
		wantMarked(t, name+"^"+long+" x", api.ErrMany)
		wantMarked(t, name+"^"+strings.Repeat("Q", 65000), api.ErrMany)
	}
}

func TestS4Machines(t *testing.T) {
	for _, marked := range []string{"rotor ^VI B A A", "rotor ^i B A A", "rotor ^| move 1", "rotor ^B I A A", "rotor ^,I B A A", "rotor ^,", "rotor I,^ B A A", "rotor I,^,II B AA AA", "rotor I,^X", "rotor I,II,^IIII,X B", "rotor I,II,III,IV,V,^X B AAAAAA AAAAAA", "rotor I,II,III,IV,V,^", "rotor ^I;II B AA AA", "rotor ^I|II B AA AA", "move 1 | rotor V,^v"} {
		wantMarked(t, marked, api.ErrName)
	}
	for _, marked := range []string{"rotor ^I,II,III,IV,V B AAAAA AAAAA", "rotor ^I,I,I,I,I", "rotor ^I,I,I,I,I ", "rotor ^V,V,V,V,V D", "rail 2 | rotor ^I,I,I,I,I,I B"} {
		wantMarked(t, marked, api.ErrMany)
	}
	for _, marked := range []string{"rotor I ^D A A", "rotor I ^b A A", "rotor I ^I A A", "rotor I ^BC A A", "rotor I ^| move 1", "rotor I,II ^B,C a a", "rotor I ^B, A A"} {
		wantMarked(t, marked, api.ErrName)
	}
	for _, marked := range []string{"rotor I B ^a A", "rotor I B ^0 A", "rotor I B ^| move 1", "rotor I B A ^a", "rotor I B A ^| move 1", "rotor I,II B ^Aa AA", "rotor I,II B ^a AA", "rotor I,II B AA ^A,A", "rotor I,II B AA ^Abc (AB)"} {
		wantMarked(t, marked, api.ErrForm)
	}
	for _, marked := range []string{"rotor I B ^AB A", "rotor I B A ^AB", "rotor I,II B ^A AA", "rotor I,II B ^AAA a", "rotor I,II B AA ^A", "rotor I,II B AA ^AAA (x", "rotor I,II,III,IV B AAAA ^AAAAA", "rotor I B ^" + strings.Repeat("A", 65000) + " A"} {
		wantMarked(t, marked, api.ErrFit)
	}
}

func TestS4BehindAStep(t *testing.T) {
	for _, marked := range []string{"move 1 ^move 2", "move 1 ^2", "move 1 ^, move 2", "move 1 ^|move 2", "move 1 ^||", "move 1 ^|\tmove", "vigenere A ^B", "rail 2 ^|x", "columns A ^AB | move 1", "hill 1 2 ^3", "hill 2 1 2 3 4 ^5", "rotor I B A A (AB) ^(AB)", "move 1 | move 2 ^& move 3"} {
		wantMarked(t, marked, api.ErrForm)
	}
}

func TestS4StepsTooMany(t *testing.T) {
	most := strings.Repeat("move 1 | ", 63) + "move 1"
	for _, more := range []string{"move 1", "move", "move x", "move 26", "rotor X", "hill 9", "vigenere a", "move 1 | move 1", "rail 2 x"} {
		wantMarked(t, most+" | ^"+more, api.ErrMany)
	}
	// Of what begins at the same byte that is told which the document names first.
	wantMarked(t, most+" | ^caesar 3", api.ErrName)
	wantMarked(t, most+" | ^", api.ErrForm)
	wantMarked(t, most+" | ^ move 1", api.ErrForm)
	wantMarked(t, most+" |^", api.ErrForm)
	wantMarked(t, most+" ^", api.ErrForm)
	wantMarked(t, most+" ^move 1", api.ErrForm)
}

// piece is a word on paper.
type piece struct {
	text string
	at   int
}

// rule says what is wrong with a word, and how far behind its beginning.
type rule func(text string) (api.Errno, int)

func when(bad bool, err api.Errno) (api.Errno, int) {
	if bad {
		return err, 0
	}
	return api.OK, 0
}

var (
	digits   = regexp.MustCompile(`^(0|[1-9][0-9]*)$`)
	lettered = regexp.MustCompile(`^[A-Z]+$`)
	oldWheel = regexp.MustCompile(`^(I|II|III|IV|V)$`)
)

func numberRule(low, high int) rule {
	return func(text string) (api.Errno, int) {
		if !digits.MatchString(text) {
			return api.ErrForm, 0
		}
		n, err := strconv.Atoi(text)
		return when(err != nil || n < low || n > high, api.ErrRange)
	}
}

func keyRule(text string) (api.Errno, int) {
	if !lettered.MatchString(text) {
		return api.ErrForm, 0
	}
	return when(len(text) > 256, api.ErrMany)
}

func wheelsRule(text string) (api.Errno, int) {
	names := strings.Split(text, ",")
	for i, name := range names {
		if !oldWheel.MatchString(name) {
			return api.ErrName, len(strings.Join(append(names[:i:i], ""), ","))
		}
	}
	return when(len(names) > 4, api.ErrMany)
}

func settingsRule(wheels string) rule {
	return func(text string) (api.Errno, int) {
		if !lettered.MatchString(text) {
			return api.ErrForm, 0
		}
		return when(len(text) != strings.Count(wheels, ",")+1, api.ErrFit)
	}
}

func plugsRule(text string) (api.Errno, int) {
	p, f := perm.Read(text)
	if f.Err != api.OK {
		return f.Err, f.At
	}
	long, _ := perm.Type(p)
	return when(long[0] > 2, api.ErrKind)
}

// rulesOf are what is asked of the words behind a step's name; l are the words from the name on.
func rulesOf(l []piece) []rule {
	second := ""
	if len(l) > 1 {
		second = l[1].text
	}
	switch l[0].text {
	case "move":
		return []rule{numberRule(0, 25)}
	case "rail":
		return []rule{numberRule(1, 64)}
	case "vigenere", "beaufort", "variant", "autokey", "columns":
		return []rule{keyRule}
	case "hill":
		out := []rule{numberRule(1, 4)}
		n, _ := strconv.Atoi(second)
		for range min(n, 4) * min(n, 4) {
			out = append(out, numberRule(0, 25))
		}
		return out
	case "rotor":
		out := []rule{wheelsRule, func(text string) (api.Errno, int) { return when(text != "B" && text != "C", api.ErrName) }, settingsRule(second), settingsRule(second)}
		if len(l) > 5 && l[5].text != "|" {
			out = append(out, plugsRule)
		}
		return out
	}
	return nil
}

// faultOnPaper goes over the words, and asks of each what is asked of it where it stands.
func faultOnPaper(text string) api.Fault {
	var l []piece
	at := 0
	for _, w := range strings.Split(text, " ") {
		l = append(l, piece{w, at})
		at += len(w) + 1
	}
	for steps := 1; ; steps++ {
		if l[0].text == "" {
			return fault(api.ErrForm, l[0].at)
		}
		rules := rulesOf(l)
		if rules == nil {
			return fault(api.ErrName, l[0].at)
		}
		if steps > 64 {
			return fault(api.ErrMany, l[0].at)
		}
		for i, rule := range rules {
			if i+1 >= len(l) {
				return fault(api.ErrForm, len(text))
			}
			if l[i+1].text == "" {
				return fault(api.ErrForm, l[i+1].at)
			}
			if err, far := rule(l[i+1].text); err != api.OK {
				return fault(err, l[i+1].at+far)
			}
		}
		l = l[len(rules)+1:]
		if len(l) == 0 {
			return api.Fault{}
		}
		if l[0].text != "|" {
			return fault(api.ErrForm, l[0].at)
		}
		if l = l[1:]; len(l) == 0 {
			return fault(api.ErrForm, len(text))
		}
	}
}

// soup are words, and pieces of such, that stand somewhere in a chain.
var soup = strings.Fields("move rail hill rotor columns vigenere beaufort variant autokey | | | 0 1 2 3 4 5 25 26 64 65 00 01 -1 x A B C AB ABC LEMON lemon I II III IV V I,II I,II,III I,,II I, ,I V,VI I,I,I,I I,I,I,I,I (AB) (AB)(CD) (ABC) (A) (AA) (AB () )( ( || caesar 99999999999999999999")

// strays are bytes that get into a text.
const strays = " |,()0123AZaz\x00\xff"

// worn is a text of which something is changed.
func worn(r *rand.Rand, text string) string {
	words := strings.Split(text, " ")
	i := r.Intn(len(words))
	switch r.Intn(7) {
	case 0:
		words[i] = soup[r.Intn(len(soup))]
	case 1:
		words = append(words[:i], words[i+1:]...)
	case 2:
		words[i] += " " + soup[r.Intn(len(soup))]
	case 3:
		words[i] += " "
	case 4:
		words = words[:i]
	case 5:
		k := r.Intn(len(text) + 1)
		c := r.Intn(len(strays))
		return text[:k] + strays[c:c+1] + text[k:]
	case 6:
		k := r.Intn(len(text) + 1)
		return text[:k] + text[min(k+1, len(text)):]
	}
	return strings.Join(words, " ")
}

// wantAsOnPaper, and that a chain that was read is written again as it was, but for its plugs.
func wantAsOnPaper(t *testing.T, text string) api.Fault {
	t.Helper()
	l, f := Read(text)
	if want := faultOnPaper(text); f != want || f.Err != api.OK && l != nil {
		t.Errorf("Read(%q) = %v, %v; want %v", text, l, f, want)
	}
	if f.Err != api.OK {
		return f
	}
	written, f := Print(l)
	if !strings.Contains(text, "(") && written != text || f != (api.Fault{}) {
		t.Errorf("what is read of %q is written %q, %v", text, written, f)
	}
	wantRead(t, written, l, api.Fault{})
	return f
}

func TestS4WornTextsAsOnPaper(t *testing.T) {
	r := rand.New(rand.NewSource(174))
	var seen [api.ErrPower + 1]int
	for range 20000 {
		text, _ := Print(append(someChain(r, 4), someStep(r)))
		for range 1 + r.Intn(2) {
			if text != "" {
				text = worn(r, text)
			}
		}
		seen[wantAsOnPaper(t, text).Err]++
	}
	for _, err := range []api.Errno{api.OK, api.ErrKind, api.ErrForm, api.ErrRange, api.ErrMany, api.ErrName, api.ErrFit} {
		if seen[err] == 0 {
			t.Errorf("%d never came", err)
		}
	}
}

func TestS4SoupAsOnPaper(t *testing.T) {
	r := rand.New(rand.NewSource(175))
	for range 20000 {
		words := make([]string, r.Intn(8))
		for i := range words {
			words[i] = soup[r.Intn(len(soup))]
		}
		wantAsOnPaper(t, strings.Join(words, " "))
	}
	// Steps up to the last one that there may be, and beyond it.
	for range 300 {
		steps := make([]string, 62+r.Intn(5))
		for i := range steps {
			steps[i], _ = Print(chain(someStep(r)))
		}
		text := strings.Join(steps, " | ")
		wantAsOnPaper(t, text)
		wantAsOnPaper(t, worn(r, text))
		wantAsOnPaper(t, text+" | "+soup[r.Intn(len(soup))])
	}
}

func TestS4AnyBytesAsOnPaper(t *testing.T) {
	r := rand.New(rand.NewSource(176))
	for range 20000 {
		text := make([]byte, r.Intn(12))
		for i := range text {
			text[i] = byte(r.Intn(256))
			if r.Intn(2) == 0 {
				text[i] = " |"[r.Intn(2)]
			}
		}
		wantAsOnPaper(t, string(text))
	}
}

// Each text that ends too early, at whichever byte.
func TestS4TextsCutShort(t *testing.T) {
	whole, _ := Print(eachKind(t))
	whole += " (AB)(CD) | hill 2 13 25 0 1 | rotor I,II,III,IV C ABCD EFGH (AZ)"
	for i := range len(whole) + 1 {
		wantAsOnPaper(t, whole[:i])
	}
}

// What is read is new memory, its keys too; and no two of its lists share any.
func TestE2WhatIsReadIsNew(t *testing.T) {
	const text = "vigenere LEMON | columns ZEBRA | hill 2 3 3 2 5 | hill 2 3 3 2 5 | rotor I,I,II B AAA AAA | rotor I,I,II B AAA AAA"
	given := []byte(text)
	l, _ := Read(unsafe.String(&given[0], len(given)))
	for i := range given {
		given[i] = '#'
	}
	wantRead(t, text, l, api.Fault{})
	lists := listsOf(l)
	for i, list := range lists {
		list = list[:cap(list)]
		for k := range list {
			list[k] = 1000 + i
		}
	}
	for i, list := range lists {
		for _, n := range list {
			if n != 1000+i {
				t.Errorf("list %d shares memory with another one", i)
			}
		}
	}
	again, f := Read(text)
	if written, _ := Print(again); written != text || f != (api.Fault{}) {
		t.Errorf("it is read as %q, %v now", written, f)
	}
}

func listsOf(l []api.Step) (out [][]int) {
	for _, s := range l {
		out = append(out, s.Matrix...)
		out = append(out, s.Machine.Rings, s.Machine.Starts)
		for _, w := range s.Machine.Wheels {
			out = append(out, w.Notches)
		}
	}
	return out
}

// Fields that a step's kind does not name are empty or 0.
func TestS4WhatAKindDoesNotNameIsEmpty(t *testing.T) {
	for _, s := range eachKind(t) {
		written, _ := Print(chain(cluttered(s)))
		l, _ := Read(written)
		if len(l) != 1 || !reflect.DeepEqual(l[0], s) {
			t.Errorf("Read(%q) = %v; want %v", written, l, s)
		}
	}
	for _, text := range []string{"move 3", "rail 3", "columns A", "vigenere A", "hill 1 1"} {
		if l, _ := Read(text); len(l) != 1 || !reflect.DeepEqual(l[0].Machine, api.Machine{}) {
			t.Errorf("Read(%q) has a machine: %v", text, l)
		}
	}
	if l, _ := Read("rotor I B A A"); len(l) != 1 || l[0].Machine.Plugs != perm.Same() || l[0].N != 0 || l[0].Key != "" || l[0].Matrix != nil {
		t.Errorf("a machine without plugs is read as %v", l)
	}
}

// The wheels that are read are those of old.
func TestS4WheelsOfOld(t *testing.T) {
	for _, name := range []string{"I", "II", "III", "IV", "V"} {
		for _, mirror := range []string{"B", "C"} {
			l, f := Read("rotor " + name + " " + mirror + " Q R")
			wheel, _ := rotor.Known(name)
			reflector, _ := rotor.Mirror(mirror)
			want := api.Machine{Wheels: []api.Wheel{wheel}, Rings: []int{16}, Starts: []int{17}, Reflector: reflector, Plugs: perm.Same()}
			if len(l) != 1 || !reflect.DeepEqual(l[0].Machine, want) || f != (api.Fault{}) {
				t.Errorf("rotor %s %s is read as %v, %v", name, mirror, l, f)
			}
		}
	}
}
