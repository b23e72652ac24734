package tele

import (
	"math"
	"math/rand"
	"reflect"
	"slices"
	"strings"
	"testing"

	"blackroom/api"
)

func wantWrong(t *testing.T, m api.Tele, want api.Errno) {
	t.Helper()
	if got := Wrong(m); got != want {
		t.Errorf("Wrong(%s) = %d; want %d", told(m), got, want)
	}
}

func wantKey(t *testing.T, m api.Tele, n int, want []int, wantErr api.Errno) {
	t.Helper()
	got, err := Key(m, n)
	if err != wantErr || !slices.Equal(got, want) || err != api.OK && got != nil {
		t.Errorf("Key(%s, %d) = %d letters %d, %d; want %d letters %d, %d", told(m), n, len(got), head(got), err, len(want), head(want), wantErr)
	}
}

func wantWrite(t *testing.T, m api.Tele, text, want []int, wantErr api.Errno) {
	t.Helper()
	got, err := Write(m, text)
	if err != wantErr || !slices.Equal(got, want) || err != api.OK && got != nil {
		t.Errorf("Write(%s, %d letters %d) = %d letters %d, %d; want %d letters %d, %d", told(m), len(text), head(text), len(got), head(got), err, len(want), head(want), wantErr)
	}
}

func wantDelta(t *testing.T, text, want []int, wantErr api.Errno) {
	t.Helper()
	got, err := Delta(text)
	if err != wantErr || !slices.Equal(got, want) || err != api.OK && got != nil {
		t.Errorf("Delta(%d letters %d) = %d letters %d, %d; want %d letters %d, %d", len(text), head(text), len(got), head(got), err, len(want), head(want), wantErr)
	}
}

// head is as much of a long list as is worth telling.
func head(l []int) []int { return l[:min(len(l), 40)] }

// A machine is written in these tests wheel by wheel, the five of Chi, the five of Psi, Motor: x is a pin that stands out, a dot one that does not; a capital letter, X or O, is the pin at which the wheel stands.
func machine(wheels string) api.Tele {
	var m api.Tele
	for i, w := range strings.Fields(wheels) {
		wheel, at := make(api.Pins, len(w)), strings.IndexAny(w, "XO")
		for j := range wheel {
			wheel[j] = w[j] == 'x' || w[j] == 'X'
		}
		put(&m, i, wheel, at)
	}
	return m
}

// put makes one of the eleven wheels anew.
func put(m *api.Tele, i int, wheel api.Pins, at int) {
	p, a := wheelOf(m, i)
	*p, *a = wheel, at
}

// wheelOf is one of the eleven wheels, and where it stands.
func wheelOf(m *api.Tele, i int) (*api.Pins, *int) {
	if i < 5 {
		return &m.Chi[i], &m.ChiAt[i]
	}
	if i < 10 {
		return &m.Psi[i-5], &m.PsiAt[i-5]
	}
	return &m.Motor, &m.MotorAt
}

func told(m api.Tele) string {
	var out []string
	for i := range 11 {
		wheel, at := wheelOf(&m, i)
		w := []byte(strings.Repeat(".", len(*wheel)))
		for j, pin := range *wheel {
			if pin {
				w[j] = 'x'
			}
		}
		if *at >= 0 && *at < len(w) {
			w[*at] = map[byte]byte{'x': 'X', '.': 'O'}[w[*at]]
		}
		out = append(out, string(w))
	}
	return strings.Join(out, " ")
}

// someMachine is one with which nothing is wrong.
func someMachine(r *rand.Rand, pins int) api.Tele {
	var m api.Tele
	for i := range 11 {
		wheel := someWheel(r, 1+r.Intn(pins))
		put(&m, i, wheel, r.Intn(len(wheel)))
	}
	return m
}

func someWheel(r *rand.Rand, pins int) api.Pins {
	out := make(api.Pins, pins)
	for i := range out {
		out[i] = r.Intn(2) == 0
	}
	return out
}

func someText(r *rand.Rand, long int) []int {
	out := make([]int, long)
	for i := range out {
		out[i] = r.Intn(Holes)
	}
	return out
}

// punched is a letter as five signs on a tape: 1 where a hole is.
func punched(letter int) string {
	out := ""
	for _, counts := range []int{16, 8, 4, 2, 1} {
		if letter >= counts {
			out, letter = out+"1", letter-counts
		} else {
			out += "0"
		}
	}
	return out
}

func letterOf(holes string) int {
	letter := 0
	for i, counts := range []int{16, 8, 4, 2, 1} {
		if holes[i] == '1' {
			letter += counts
		}
	}
	return letter
}

// addedOnPaper goes hole by hole.
func addedOnPaper(a, b int) int {
	out, x, y := "", punched(a), punched(b)
	for i := range 5 {
		if x[i] != y[i] {
			out += "1"
		} else {
			out += "0"
		}
	}
	return letterOf(out)
}

// keyOnPaper first tells of each letter how often the five of Psi have gone on ahead of it; then each wheel's place is known at once.
func keyOnPaper(m api.Tele, n int) []int {
	out, gone := make([]int, n), 0
	for i := range out {
		chi, psi := "", ""
		for k := range 5 {
			chi += hole(m.Chi[k], m.ChiAt[k]+i)
			psi += hole(m.Psi[k], m.PsiAt[k]+gone)
		}
		out[i] = addedOnPaper(letterOf(chi), letterOf(psi))
		if hole(m.Motor, m.MotorAt+i) == "1" {
			gone++
		}
	}
	return out
}

func hole(wheel api.Pins, at int) string {
	if wheel[at%len(wheel)] {
		return "1"
	}
	return "0"
}

func writtenOnPaper(m api.Tele, text []int) []int {
	out := keyOnPaper(m, len(text))
	for i, letter := range text {
		out[i] = addedOnPaper(out[i], letter)
	}
	return out
}

// flawed are machines of which one wheel is wrong, or several are: by the error that is told.
func flawed() map[api.Errno][]api.Tele {
	out := map[api.Errno][]api.Tele{}
	good := machine(example)
	for i := range 11 {
		for _, wheel := range []api.Pins{nil, {}, make(api.Pins, 0, 9), make(api.Pins, api.MaxPins+1), make(api.Pins, 4096)} {
			for _, at := range []int{0, -1, 1, len(wheel) - 1, len(wheel), math.MaxInt} {
				m := good
				put(&m, i, wheel, at)
				out[api.ErrRange] = append(out[api.ErrRange], m)
			}
		}
		for _, pins := range []int{1, 2, api.MaxPins} {
			for _, at := range []int{-1, -pins, pins, pins + 1, math.MinInt, math.MaxInt} {
				m := good
				put(&m, i, make(api.Pins, pins), at)
				out[api.ErrFit] = append(out[api.ErrFit], m)
			}
		}
		for later := i + 1; later < 11; later++ {
			m := good
			put(&m, i, api.Pins{true}, 1)
			put(&m, later, nil, 0)
			out[api.ErrFit] = append(out[api.ErrFit], m)
			put(&m, i, nil, 0)
			put(&m, later, api.Pins{true}, 1)
			out[api.ErrRange] = append(out[api.ErrRange], m)
		}
	}
	return out
}

const example = "Xx. xX.x xxOx. X.x .X x.X xO OxX x.O. .X xX"

// eachFlawed asks of each machine that is wrong.
func eachFlawed(ask func(m api.Tele, want api.Errno)) {
	for err, machines := range flawed() {
		for _, m := range machines {
			ask(m, err)
		}
	}
}

func notLong() []int {
	return []int{-1, -2, math.MinInt, api.MaxText + 1, api.MaxText + 2, 1 << 32, math.MaxInt}
}

func notLetters() []int {
	return []int{-1, -31, -32, Holes, Holes + 1, 64, 255, 256, 1 << 32, math.MinInt, math.MinInt + 3, math.MaxInt}
}

func TestX1WrongWheels(t *testing.T) {
	eachFlawed(func(m api.Tele, want api.Errno) { wantWrong(t, m, want) })
	wantWrong(t, api.Tele{}, api.ErrRange)
}

func TestX1RightWheels(t *testing.T) {
	r := rand.New(rand.NewSource(131))
	for i := range 11 {
		for _, pins := range []int{1, 2, api.MaxPins} {
			for at := range pins {
				m := someMachine(r, api.MaxPins)
				put(&m, i, make(api.Pins, pins), at)
				wantWrong(t, m, api.OK)
			}
		}
	}
}

func TestX1KeyByHand(t *testing.T) {
	for _, c := range []struct {
		wheels string
		want   []int
	}{
		// The first wheel's pin is the first hole, and counts 16.
		{"X O O O O O O O O O O", []int{16, 16, 16}},
		{"O O O O X O O O O O O", []int{1, 1, 1}},
		{"O X O X O O O O O O O", []int{10, 10, 10}},
		{"O O O O O X O O O O O", []int{16, 16, 16}},
		{"O O O O O O O O X O O", []int{2, 2, 2}},
		{"X X X X X O O O O O O", []int{31, 31, 31}},
		// What both show is not there.
		{"X X O O O O X X O O O", []int{20, 20, 20}},
		{"X X X X X X X X X X X", []int{0, 0, 0}},
		// Those of Chi always go on.
		{"Xx. O O O O O O O O O O", []int{16, 16, 0, 16, 16, 0}},
		{"xX. O O O O O O O O O O", []int{16, 0, 16, 16, 0, 16}},
		{"xxO O O O O O O O O O O", []int{0, 16, 16, 0, 16, 16}},
		{"Xx. O O O O O O O O O X", []int{16, 16, 0, 16, 16, 0}},
		// Those of Psi stand, where Motor's pin does not stand out.
		{"O O O O O Xx. O O O O O", []int{16, 16, 16, 16, 16, 16}},
		{"O O O O O Xx. O O O O X", []int{16, 16, 0, 16, 16, 0}},
		{"O O O O O O O O O X. X.", []int{1, 0, 0, 1, 1, 0, 0}},
		{"O O O O O O O O O X. xO", []int{1, 1, 0, 0, 1, 1, 0}},
		{"O O O O O O O O O O.x X..x", []int{0, 0, 0, 0, 1, 0, 0, 0, 0, 1, 1, 1}},
		// Each wheel of Psi goes on by one, however many pins it has.
		{"O O O O O X. X.. O O O X", []int{24, 0, 16, 8, 16, 0, 24}},
	} {
		m := machine(c.wheels)
		for n := range len(c.want) + 1 {
			wantKey(t, m, n, c.want[:n], api.OK)
		}
		if paper := keyOnPaper(m, len(c.want)); !slices.Equal(paper, c.want) {
			t.Errorf("%s: on paper it is %d; want %d", c.wheels, paper, c.want)
		}
	}
}

// One wheel with one pin that stands out, wherever it begins.
func TestX1EachPin(t *testing.T) {
	for i := range 10 {
		for _, pins := range []int{1, 2, 3, api.MaxPins} {
			for at := range pins {
				m := machine("O O O O O O O O O O X")
				wheel := make(api.Pins, pins)
				wheel[0] = true
				put(&m, i, wheel, at)
				want := make([]int, 3*pins)
				for turn := range 3 {
					want[turn*pins+(pins-at)%pins] = []int{16, 8, 4, 2, 1}[i%5]
				}
				wantKey(t, m, len(want), want, api.OK)
			}
		}
	}
}

func TestX1KeyAsOnPaper(t *testing.T) {
	r := rand.New(rand.NewSource(132))
	for range 2000 {
		m, n := someMachine(r, 1+r.Intn(api.MaxPins)), r.Intn(200)
		wantKey(t, m, n, keyOnPaper(m, n), api.OK)
	}
}

func TestX1LongestKeys(t *testing.T) {
	m := someMachine(rand.New(rand.NewSource(133)), api.MaxPins)
	want := keyOnPaper(m, api.MaxText)
	wantKey(t, m, api.MaxText, want, api.OK)
	wantKey(t, m, api.MaxText-1, want[:api.MaxText-1], api.OK)
}

func TestX1KeysThatAreWrong(t *testing.T) {
	for _, n := range notLong() {
		wantKey(t, machine(example), n, nil, api.ErrRange)
	}
	// What is wrong with a machine is told ahead of a wrong number, and even where nothing is asked for.
	eachFlawed(func(m api.Tele, want api.Errno) {
		for _, n := range append([]int{0, 1, 9}, notLong()...) {
			wantKey(t, m, n, nil, want)
		}
	})
}

func TestX2WriteByHand(t *testing.T) {
	wantWrite(t, machine("O O O X X O O O O O O"), []int{5, 3, 0, 31}, []int{6, 0, 3, 28}, api.OK)
	wantWrite(t, machine("X. O O O O O O O O O O"), []int{0, 0, 16, 16, 31}, []int{16, 0, 0, 16, 15}, api.OK)
	wantWrite(t, machine("O O O O O O O O O X. xO"), []int{0, 1, 30, 31}, []int{1, 0, 30, 31}, api.OK)
	wantWrite(t, machine(example), nil, nil, api.OK)
}

// Each letter added to each one.
func TestX2EachLetterByEachKey(t *testing.T) {
	for key := range Holes {
		var m api.Tele
		for i, sign := range punched(key) + "000000" {
			put(&m, i, api.Pins{sign == '1'}, 0)
		}
		text, want := make([]int, Holes), make([]int, Holes)
		for letter := range Holes {
			text[letter], want[letter] = letter, addedOnPaper(letter, key)
		}
		wantWrite(t, m, text, want, api.OK)
	}
}

func TestX2WriteAsOnPaperAndUndone(t *testing.T) {
	r := rand.New(rand.NewSource(134))
	for range 2000 {
		m, text := someMachine(r, 1+r.Intn(api.MaxPins)), someText(r, r.Intn(150))
		hidden := writtenOnPaper(m, text)
		wantWrite(t, m, text, hidden, api.OK)
		wantWrite(t, m, hidden, text, api.OK)
	}
}

func TestX2DeltaByHand(t *testing.T) {
	for _, c := range []struct{ text, want []int }{
		{nil, nil},
		{[]int{7}, nil},
		{[]int{3, 5}, []int{6}},
		{[]int{5, 3}, []int{6}},
		{[]int{9, 9, 9}, []int{0, 0}},
		{[]int{0, 31, 0, 16}, []int{31, 31, 16}},
		{[]int{1, 2, 3, 31, 0, 16}, []int{3, 1, 28, 31, 16}},
	} {
		wantDelta(t, c.text, c.want, api.OK)
	}
}

func deltaOnPaper(text []int) []int {
	var out []int
	for i, letter := range text {
		if i > 0 {
			out = append(out, addedOnPaper(text[i-1], letter))
		}
	}
	return out
}

func TestX2DeltaOfEachTwo(t *testing.T) {
	for a := range Holes {
		for b := range Holes {
			wantDelta(t, []int{a, b, a}, []int{addedOnPaper(a, b), addedOnPaper(a, b)}, api.OK)
		}
	}
}

// What changes in what is written is what changes in the text, added to what changes in the key.
func TestX2DeltaOfWhatIsWritten(t *testing.T) {
	r := rand.New(rand.NewSource(135))
	for range 500 {
		m, text := someMachine(r, 9), someText(r, r.Intn(60))
		hidden, key := writtenOnPaper(m, text), deltaOnPaper(keyOnPaper(m, len(text)))
		want := deltaOnPaper(text)
		wantDelta(t, text, want, api.OK)
		for i := range want {
			want[i] = addedOnPaper(want[i], key[i])
		}
		wantDelta(t, hidden, want, api.OK)
	}
}

func TestX2LongestTexts(t *testing.T) {
	r := rand.New(rand.NewSource(136))
	m, text := someMachine(r, api.MaxPins), someText(r, api.MaxText)
	wantWrite(t, m, text, writtenOnPaper(m, text), api.OK)
	wantDelta(t, text, deltaOnPaper(text), api.OK)
	for _, longer := range [][]int{append(slices.Clone(text), 0), append(slices.Clone(text), -1), append([]int{32}, text...), make([]int, 2*api.MaxText)} {
		wantWrite(t, m, longer, nil, api.ErrMany)
		wantDelta(t, longer, nil, api.ErrMany)
	}
	text[api.MaxText-1] = Holes
	wantWrite(t, m, text, nil, api.ErrRange)
	wantDelta(t, text, nil, api.ErrRange)
}

func TestX2TextsThatAreWrong(t *testing.T) {
	m := machine(example)
	for _, wrong := range notLetters() {
		for long := 1; long < 5; long++ {
			for at := range long {
				text := make([]int, long)
				text[at] = wrong
				wantWrite(t, m, text, nil, api.ErrRange)
				wantDelta(t, text, nil, api.ErrRange)
			}
		}
	}
}

// What is wrong with a machine is told ahead of what is wrong with a text.
func TestX2WriteWithWrongMachines(t *testing.T) {
	eachFlawed(func(m api.Tele, want api.Errno) {
		for _, text := range [][]int{nil, {}, {1, 2}, {32}, {-1, 1}, make([]int, api.MaxText+1)} {
			wantWrite(t, m, text, nil, want)
		}
	})
}

// roomyWheel has spare room behind its pins, in which others stand.
func roomyWheel(wheel api.Pins) api.Pins {
	return append(slices.Clone(wheel), true, false, true, true)[:len(wheel)]
}

func roomyMachine(m api.Tele) api.Tele {
	for i := range 11 {
		wheel, _ := wheelOf(&m, i)
		*wheel = roomyWheel(*wheel)
	}
	return m
}

func roomyText(text []int) []int { return append(slices.Clone(text), 16, -1, 99)[:len(text)] }

// whole is a machine of its own that has all pins of another, and those in the spare room too.
func whole(m api.Tele) api.Tele {
	for i := range 11 {
		wheel, _ := wheelOf(&m, i)
		*wheel = slices.Clone((*wheel)[:cap(*wheel)])
	}
	return m
}

// spoil writes over all wheels, their spare room too.
func spoil(m api.Tele) {
	for i := range 11 {
		wheel, _ := wheelOf(&m, i)
		for j, pin := range (*wheel)[:cap(*wheel)] {
			(*wheel)[:cap(*wheel)][j] = !pin
		}
	}
}

func spoilText(text []int) {
	text = text[:cap(text)]
	for i := range text {
		text[i] = 77
	}
}

func TestE2TeleOnlyReads(t *testing.T) {
	machines := []api.Tele{machine(example), machine("X O O O O O O O O O O")}
	eachFlawed(func(m api.Tele, want api.Errno) { machines = append(machines, m) })
	for _, c := range machines {
		for _, text := range [][]int{nil, {1, 2, 3, 31, 0, 16}, {4}, {1, 32}} {
			m, given := roomyMachine(c), roomyText(text)
			all, allText := whole(m), slices.Clone(given[:cap(given)])
			wantWrong(t, m, Wrong(c))
			key, keyErr := Key(m, 12)
			hidden, err := Write(m, given)
			delta, deltaErr := Delta(given)
			if !reflect.DeepEqual(whole(m), all) || m.ChiAt != c.ChiAt || m.PsiAt != c.PsiAt || m.MotorAt != c.MotorAt || !slices.Equal(given[:cap(given)], allText) {
				t.Errorf("what was handed in has been changed: %s, %d", told(m), given[:cap(given)])
			}
			spoil(m)
			spoilText(given)
			wantKey(t, c, 12, key, keyErr)
			wantWrite(t, c, text, hidden, err)
			wantDelta(t, text, delta, deltaErr)
		}
	}
}

func TestE2TeleAnswersAreNewEachTime(t *testing.T) {
	m, text := machine(example), []int{1, 2, 3, 31, 0, 16}
	for range 3 {
		for _, list := range []func() ([]int, api.Errno){
			func() ([]int, api.Errno) { return Key(m, 6) },
			func() ([]int, api.Errno) { return Write(m, text) },
			func() ([]int, api.Errno) { return Delta(text) },
			func() ([]int, api.Errno) { return Delta(text[:1]) },
			func() ([]int, api.Errno) { return Write(m, text[:0]) },
		} {
			got, _ := list()
			spoilText(got)
		}
		wantKey(t, m, 6, keyOnPaper(machine(example), 6), api.OK)
		wantWrite(t, m, text, writtenOnPaper(machine(example), []int{1, 2, 3, 31, 0, 16}), api.OK)
		wantDelta(t, text, []int{3, 1, 28, 31, 16}, api.OK)
	}
}

// Wheels may lie in one list: each is only as long as it says.
func TestE2OneListForAllWheels(t *testing.T) {
	pins := api.Pins{true, true, false, true, false, false, true}
	var m, apart api.Tele
	for i := range 11 {
		wheel := pins[i%3 : 3+i%5]
		put(&m, i, wheel, i%len(wheel))
		put(&apart, i, slices.Clone(wheel), i%len(wheel))
	}
	wantKey(t, m, 40, keyOnPaper(apart, 40), api.OK)
}

func TestE3TextsOfNothing(t *testing.T) {
	for _, text := range [][]int{nil, {}, make([]int, 0, 5)} {
		wantWrite(t, machine(example), text, nil, api.OK)
		wantDelta(t, text, nil, api.OK)
	}
	wantKey(t, machine(example), 0, nil, api.OK)
}
