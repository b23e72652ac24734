package pins

import (
	"math/big"
	"math/rand"
	"slices"
	"strings"
	"testing"
	"unsafe"

	"blackroom/api"
)

const alphabet = "ABCDEFGHIJKLMNOPQRSTUVWXYZ"

func wantWrite(t *testing.T, d api.Drum, text, want string, wantFault api.Fault) {
	t.Helper()
	if got, f := Write(d, text); got != want || f != wantFault {
		t.Errorf("Write(%s, %d bytes %.40q) = %d bytes %.40q, %v; want %d bytes %.40q, %v", told(d), len(text), text, len(got), got, f, len(want), want, wantFault)
	}
}

func wantCycle(t *testing.T, d api.Drum, want int, wantErr api.Errno) {
	t.Helper()
	if got, err := Cycle(d); got != want || err != wantErr {
		t.Errorf("Cycle(%s) = %d, %d; want %d, %d", told(d), got, err, want, wantErr)
	}
}

func fault(e api.Errno, at int) api.Fault { return api.Fault{Err: e, At: at} }

// writtenOnPaper lays the alphabet, read backwards, below itself, and goes on in it by one letter for each bar.
func writtenOnPaper(d api.Drum, text string) string {
	backwards := "ZYXWVUTSRQPONMLKJIHGFEDCBA"
	var out strings.Builder
	for i, pushed := range pushedOnPaper(d, len(text)) {
		at := strings.IndexByte(alphabet, backwards[strings.IndexByte(alphabet, text[i])])
		out.WriteByte(strings.Repeat(alphabet, 3)[at+pushed])
	}
	return out.String()
}

func someText(r *rand.Rand, long int) string {
	out := make([]byte, long)
	for i := range out {
		out[i] = alphabet[r.Intn(len(alphabet))]
	}
	return string(out)
}

// pushing is a drum of which so many bars are always pushed.
func pushing(bars int) api.Drum {
	return api.Drum{Wheels: []api.Pins{{true}}, Bars: slices.Repeat([][2]int{{0, 1}}, bars)}
}

func TestW2WriteByHand(t *testing.T) {
	for _, c := range []struct{ wheels, bars, text, want string }{
		{"10", "10", "AA", "AZ"},
		{"10", "10", "AAAAA", "AZAZA"},
		{"01", "10", "AAAAA", "ZAZAZ"},
		{"10", "", "ABCXYZ", "ZYXCBA"},
		{"10", "11", "ABCXYZ", "AYYCCA"},
		{"101 01", "10 12 00 22", "ATTACK", "BIICXS"},
		{"101 01", "10 12 00 22", "BIICXS", "ATTACK"},
		{"110 10", "10 20", "", ""},
		{"110 10", "10 20", "Z", "C"},
		{"1", "11", "N", "N"}, // a letter may become itself
	} {
		wantWrite(t, drum(c.wheels, c.bars), c.text, c.want, api.Fault{})
		if paper := writtenOnPaper(drum(c.wheels, c.bars), c.text); paper != c.want {
			t.Errorf("%s; %s: %s is %s on paper", c.wheels, c.bars, c.text, paper)
		}
	}
}

// Each letter by each number of bars: the alphabet backwards, moved on; 26 bars are as none, and 27 as one.
func TestW2EachLetterByEachNumberOfBars(t *testing.T) {
	backwards := []byte(alphabet)
	slices.Reverse(backwards)
	moved := string(backwards)
	for bars := range api.MaxBars + 1 {
		wantWrite(t, pushing(bars), alphabet, moved, api.Fault{})
		moved = moved[25:] + moved[:25]
	}
	wantWrite(t, pushing(26), alphabet, string(backwards), api.Fault{})
	wantWrite(t, pushing(27), alphabet, "A"+string(backwards[:25]), api.Fault{})
}

func TestW2WriteAsOnPaperAndUndone(t *testing.T) {
	r := rand.New(rand.NewSource(123))
	for range 2000 {
		d, text := someDrum(r, 1+r.Intn(api.MaxDrum), 1+r.Intn(api.MaxPins), r.Intn(api.MaxBars+1)), someText(r, r.Intn(150))
		hidden := writtenOnPaper(d, text)
		wantWrite(t, d, text, hidden, api.Fault{})
		wantWrite(t, d, hidden, text, api.Fault{})
	}
}

func TestW2LongestTexts(t *testing.T) {
	r := rand.New(rand.NewSource(124))
	d := someDrum(r, api.MaxDrum, api.MaxPins, api.MaxBars)
	text := someText(r, api.MaxText)
	wantWrite(t, d, text, writtenOnPaper(d, text), api.Fault{})
	wantWrite(t, d, text[1:], writtenOnPaper(d, text[1:]), api.Fault{})
	wantWrite(t, d, text+"A", "", fault(api.ErrMuch, 0))
	wantWrite(t, d, text+"a", "", fault(api.ErrMuch, 0))
	wantWrite(t, d, "a"+text, "", fault(api.ErrMuch, 0))
	wantWrite(t, d, text[1:]+"a", "", fault(api.ErrForm, api.MaxText-1))
}

func TestW2TextsThatAreWrong(t *testing.T) {
	d := drum("101 01", "10 12 00 22")
	for b := range 256 {
		c := string([]byte{byte(b)})
		if strings.Contains(alphabet, c) {
			continue
		}
		wantWrite(t, d, c, "", fault(api.ErrForm, 0))
		wantWrite(t, d, "ATT"+c+"CK", "", fault(api.ErrForm, 3))
		wantWrite(t, d, "ATT"+c+c, "", fault(api.ErrForm, 3))
		wantWrite(t, d, "ATTACK"+c, "", fault(api.ErrForm, 6))
	}
}

// What is wrong with a drum is told ahead of what is wrong with a text, and at 0.
func TestW2WriteWithWrongDrums(t *testing.T) {
	for err, drums := range wrongDrums() {
		for _, d := range drums {
			for _, text := range []string{"", "ATTACK", "ATTaCK", "\xff", strings.Repeat("A", api.MaxText+1)} {
				wantWrite(t, d, text, "", fault(err, 0))
			}
		}
	}
}

func TestW2CycleByHand(t *testing.T) {
	for _, c := range []struct {
		pins []int
		want int
	}{
		{[]int{1}, 1},
		{[]int{2}, 2},
		{[]int{api.MaxPins}, api.MaxPins},
		{[]int{1, 1, 1}, 1},
		{[]int{3, 2}, 6},
		{[]int{4, 6}, 12},
		{[]int{6, 4}, 12},
		{[]int{4, 4}, 4},
		{[]int{2, 4, 8, 16, 32}, 32},
		{[]int{32, 16, 8, 4, 2}, 32},
		{[]int{6, 10, 15}, 30},
		{[]int{26, 25, 23, 21, 19, 17}, 101405850},
		{[]int{47, 46, 45, 44, 43, 42}, 644254380},
		{slices.Repeat([]int{api.MaxPins}, api.MaxDrum), api.MaxPins},
		{[]int{41, 31, 29, 26, 23}, 22041682},
	} {
		if want := multipleOnPaper(c.pins); !want.IsInt64() || want.Int64() != int64(c.want) {
			t.Errorf("%d: on paper it is %v", c.pins, want)
		}
		wantCycle(t, sized(c.pins...), c.want, api.OK)
	}
}

// The greatest cycles of all that are told, and the least that are not: in any order of the wheels.
func TestW2CycleAtItsBound(t *testing.T) {
	r := rand.New(rand.NewSource(125))
	for _, c := range []struct {
		pins []int
		want int
		err  api.Errno
	}{
		{[]int{32, 27, 7, 11, 13, 17, 37, 43, 47}, 1099422900576, api.OK},
		{[]int{4, 5, 7, 11, 17, 19, 31, 37, 41, 47}, 1099432005980, api.OK},
		{[]int{4, 5, 7, 11, 17, 19, 31, 37, 41, 47, 44, 38}, 1099432005980, api.OK},
		{[]int{16, 25, 11, 13, 19, 23, 29, 37, 41}, 0, api.ErrMuch}, // 1099666625200
		{[]int{3, 7, 19, 29, 31, 37, 41, 43, 47}, 0, api.ErrMuch},   // 1099725971757
		{[]int{47, 43, 41, 37, 31, 29, 26, 25}, 0, api.ErrMuch},
		{[]int{47, 43, 41, 37, 31, 29, 23, 19, 17, 32, 27, 25}, 0, api.ErrMuch},
		{[]int{47, 46, 45, 44, 43, 42, 41, 40, 39, 38, 37, 36}, 0, api.ErrMuch}, // multiplied out it would wrap round
	} {
		for range 50 {
			wantCycle(t, sized(c.pins...), c.want, c.err)
			r.Shuffle(len(c.pins), func(i, j int) { c.pins[i], c.pins[j] = c.pins[j], c.pins[i] })
		}
	}
}

// multipleOnPaper takes of each number below 48 that is a power of a prime that prime once, if it divides one of the numbers.
func multipleOnPaper(pins []int) *big.Int {
	out := big.NewInt(1)
	for _, prime := range []int{2, 3, 5, 7, 11, 13, 17, 19, 23, 29, 31, 37, 41, 43, 47} {
		for power := prime; power <= api.MaxPins; power *= prime {
			if slices.ContainsFunc(pins, func(n int) bool { return n%power == 0 }) {
				out.Mul(out, big.NewInt(int64(prime)))
			}
		}
	}
	return out
}

func TestW2CycleAsOnPaper(t *testing.T) {
	r := rand.New(rand.NewSource(126))
	// Of any numbers few cycles are too much: so some are taken that have few divisors with each other.
	apart := []int{47, 43, 41, 37, 32, 31, 29, 27, 25, 23, 19, 17, 14, 13, 11}
	much := 0
	for range 20000 {
		pins := make([]int, 1+r.Intn(api.MaxDrum))
		for i, at := range r.Perm(len(apart))[:len(pins)] {
			pins[i] = apart[at]
			if r.Intn(8) == 0 {
				pins[i] = 1 + r.Intn(api.MaxPins)
			}
		}
		d := sized(pins...)
		if want := multipleOnPaper(pins); want.Cmp(big.NewInt(api.MaxCycle)) > 0 {
			much++
			wantCycle(t, d, 0, api.ErrMuch)
		} else {
			wantCycle(t, d, int(want.Int64()), api.OK)
		}
	}
	if much < 1000 || much > 19000 {
		t.Errorf("%d cycles of 20000 were too much", much)
	}
}

// A wheel's pins all alike, or bars that stand nowhere, make no cycle less: it hangs on how many pins there are alone.
func TestW2CycleHangsOnHowManyPins(t *testing.T) {
	for _, wheels := range []string{"0000 000000", "1111 111111", "1010 110110", "1000 100000"} {
		for _, bars := range []string{"", "00", "10", "12 21"} {
			wantCycle(t, drum(wheels, bars), 12, api.OK)
		}
	}
}

// What a drum makes comes again behind a cycle; with one pin a wheel that stands out, no sooner.
func TestW2StreamsComeAgain(t *testing.T) {
	r := rand.New(rand.NewSource(127))
	for range 100 {
		d := someDrum(r, 1+r.Intn(3), 12, 3+r.Intn(6))
		for i, wheel := range d.Wheels {
			clear(wheel)
			wheel[0] = true
			d.Bars[i] = [2]int{i + 1, 0}
		}
		d.Bars = d.Bars[:len(d.Wheels)]
		cycle, err := Cycle(d)
		made, errAgain := Stream(d, 2*cycle)
		if err != api.OK || errAgain != api.OK || !slices.Equal(made[:cycle], made[cycle:]) {
			t.Fatalf("Cycle(%s) = %d, %d, and Stream does not come again", told(d), cycle, err)
		}
		if all := slices.Index(made[1:], len(d.Wheels)) + 1; all != cycle {
			t.Errorf("Cycle(%s) = %d, but all bars are pushed again at %d", told(d), cycle, all)
		}
	}
}

func TestW2CycleOfWrongDrums(t *testing.T) {
	for err, drums := range wrongDrums() {
		for _, d := range drums {
			wantCycle(t, d, 0, err)
		}
	}
	// They are told ahead of a cycle that is too much.
	d := sized(47, 43, 41, 37, 31, 29, 26, 25)
	wantCycle(t, d, 0, api.ErrMuch)
	d.Bars = [][2]int{{0, 9}}
	wantCycle(t, d, 0, api.ErrFit)
	d.Wheels = append(d.Wheels, nil)
	wantCycle(t, d, 0, api.ErrRange)
	d.Wheels = append(d.Wheels, sized(23, 19, 17, 11).Wheels...)
	wantCycle(t, d, 0, api.ErrMany)
}

// Letters that become themselves are written anew all the same.
func TestE2WriteIsNewMemory(t *testing.T) {
	text := strings.Repeat("N", 100)
	got, f := Write(pushing(1), text)
	if got != text || f != (api.Fault{}) {
		t.Fatalf("Write = %q, %v", got, f)
	}
	if unsafe.StringData(got) == unsafe.StringData(text) {
		t.Error("Write hands its argument back")
	}
}

// A drum begins anew with each call: nothing of an earlier one is kept.
func TestE1EachCallBeginsAnew(t *testing.T) {
	d := drum("110 10", "10 20")
	for _, n := range []int{1, 2, 5, 3} {
		wantStream(t, d, n, pushedOnPaper(d, n), api.OK)
		wantWrite(t, d, "ABC", writtenOnPaper(d, "ABC"), api.Fault{})
		wantWrite(t, d, "A", writtenOnPaper(d, "A"), api.Fault{})
	}
}
