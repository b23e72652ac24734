package bombe

import (
	"math"
	"math/rand"
	"reflect"
	"runtime"
	"slices"
	"strings"
	"sync"
	"testing"
	"time"
	"unsafe"

	"blackroom/api"
)

// allWindows are told one behind the other, the first window's letters in the outermost loop.
func allWindows(many int) [][]int {
	out := [][]int{nil}
	for range many {
		var longer [][]int
		for _, l := range out {
			for c := range api.Letters {
				longer = append(longer, append(slices.Clone(l), c))
			}
		}
		out = longer
	}
	return out
}

// searchBy goes through all windows, one behind the other, and asks of each.
func searchBy(m api.Machine, ask func(m api.Machine) []api.Guess) []api.Halt {
	var out []api.Halt
	for _, l := range allWindows(len(m.Wheels)) {
		m.Starts = l
		if g := ask(m); len(g) > 0 {
			out = append(out, api.Halt{Starts: l, Guesses: g})
		}
	}
	return out
}

func searchOf(t *testing.T, m api.Machine, crib, told string, hands int) []api.Halt {
	t.Helper()
	l, err := Search(m, crib, told, hands)
	if err != api.OK {
		t.Fatalf("Search of %q and %q by %d hands = %v", crib, told, hands, err)
	}
	return l
}

func sameHalts(a, b []api.Halt) bool {
	return slices.EqualFunc(a, b, func(a, b api.Halt) bool {
		return slices.Equal(a.Starts, b.Starts) && slices.Equal(a.Guesses, b.Guesses)
	})
}

// hasStarts says how often the search stops there.
func hasStarts(l []api.Halt, starts []int) int {
	many := 0
	for _, h := range l {
		if slices.Equal(h.Starts, starts) {
			many++
		}
	}
	return many
}

func TestB3SearchOfOneWheel(t *testing.T) {
	r := rand.New(rand.NewSource(107))
	sizes := map[bool]int{}
	for range 20 {
		m := someMachine(r, 1)
		kinds := 2 + r.Intn(25)
		crib := someText(r, 1+r.Intn(api.MaxCrib), kinds)
		for _, told := range []string{someTold(r, crib, kinds), writeOf(t, m, crib)} {
			want := searchBy(m, func(m api.Machine) []api.Guess { return testOnPaper(t, m, crib, told) })
			for _, hands := range []int{1, 2, 3, 13, 15, api.MaxHands} {
				if got := searchOf(t, m, crib, told, hands); !sameHalts(got, want) {
					t.Errorf("Search of %v, %q and %q by %d hands = %v; want %v", m, crib, told, hands, got, want)
				}
			}
			sizes[len(want) > 0 && len(want) < api.Letters]++
		}
	}
	if sizes[true] < 8 {
		t.Errorf("%v: at some windows, not at all of them, too few stop", sizes)
	}
}

func TestB3SearchOfTwoWheels(t *testing.T) {
	m := machine(t, "II V", "GX", "QY", "C", "(QW)(ER)(TZ)(UI)(OP)(AS)")
	for _, crib := range []string{"KEINEBESONDERE"} {
		told := writeOf(t, m, crib)
		want := searchBy(m, func(m api.Machine) []api.Guess { return testOnPaper(t, m, crib, told) })
		for _, hands := range []int{1, 5, api.MaxHands} {
			if got := searchOf(t, m, crib, told, hands); !sameHalts(got, want) {
				t.Errorf("Search of %q by %d hands = %v; want %v", crib, hands, got, want)
			}
		}
		if hasStarts(want, numbers("QY")) != 1 || len(want) == 26*26 {
			t.Errorf("on paper %d windows are told of %q", len(want), crib)
		}
	}
}

// All windows of three wheels, the middle one's own turning among them.
func TestB3SearchOfThreeWheels(t *testing.T) {
	m := machine(t, "I II III", "BCD", "QEV", "B", "(AB)(CZ)(EN)(TO)(XY)(LM)(HI)")
	crib := "WETTERVORHERSAGEBISKAYA"
	told := writeOf(t, m, crib)
	want := searchBy(m, func(m api.Machine) []api.Guess { return testOf(t, m, crib, told) })
	for _, hands := range []int{1, api.MaxHands} {
		if got := searchOf(t, m, crib, told, hands); !sameHalts(got, want) {
			t.Errorf("Search by %d hands tells %d windows; want %d", hands, len(got), len(want))
		}
	}
	if hasStarts(want, numbers("QEV")) != 1 || len(want) > 1000 {
		t.Errorf("%d windows are told", len(want))
	}
	for _, h := range want {
		if len(h.Guesses) == 0 {
			t.Errorf("at %v it stops, and nothing is guessed", h.Starts)
		}
	}
}

// What stands in the windows of the machine that is handed in says nothing.
func TestB3SearchStartsSayNothing(t *testing.T) {
	m := machine(t, "III", "C", "A", "B", "(AB)")
	told := writeOf(t, m, "THEENEMYATTACKS")
	want := searchOf(t, m, "THEENEMYATTACKS", told, 2)
	for c := range api.Letters {
		m.Starts = []int{c}
		if got := searchOf(t, m, "THEENEMYATTACKS", told, 2); len(want) == 0 || !sameHalts(got, want) {
			t.Errorf("begun at %d Search tells %v; want %v", c, got, want)
		}
	}
}

// The bombe never misses, wherever the machine stood.
func TestB3SearchDoesNotMiss(t *testing.T) {
	r := rand.New(rand.NewSource(108))
	for i := range 60 {
		m := someMachine(r, 1+i%2)
		crib := someText(r, 1+r.Intn(api.MaxCrib), 26)
		l := searchOf(t, m, crib, writeOf(t, m, crib), 1+r.Intn(api.MaxHands))
		if hasStarts(l, m.Starts) != 1 {
			t.Errorf("Search of %v and %q misses it, or tells it twice: %v", m, crib, l)
		}
	}
}

func TestB3SearchThatFindsNothing(t *testing.T) {
	m := machine(t, "I", "A", "A", "B", "")
	crib, told := strings.Repeat("A", 16)+strings.Repeat("B", 16), "BCDEFGHIJKLMNOPQ"+"AACDEFGHIJKLMNOP"
	for _, hands := range []int{1, api.MaxHands} {
		if l := searchOf(t, m, crib, told, hands); len(l) != 0 {
			t.Errorf("Search tells %v", l)
		}
	}
}

func TestB3SearchWrong(t *testing.T) {
	four := machine(t, "I II III IV", "AAAA", "AAAA", "B", "")
	three := threeWheels(t)
	for _, c := range []struct {
		what  string
		m     api.Machine
		hands int
		want  api.Errno
	}{
		{"four wheels", four, 1, api.ErrMuch},
		{"four wheels", four, 0, api.ErrMuch},
		{"four wheels", four, api.MaxHands + 1, api.ErrMuch},
		{"three wheels", three, 0, api.ErrRange},
		{"three wheels", three, -1, api.ErrRange},
		{"three wheels", three, api.MaxHands + 1, api.ErrRange},
		{"three wheels", three, math.MinInt, api.ErrRange},
		{"three wheels", three, math.MaxInt, api.ErrRange},
	} {
		if l, err := Search(c.m, "HELLO", "WORXD", c.hands); l != nil || err != c.want {
			t.Errorf("Search of %s by %d hands = %v, %v; want %v", c.what, c.hands, l, err, c.want)
		}
	}
}

func TestE1SearchLeavesNobodyBehind(t *testing.T) {
	m := machine(t, "I", "A", "A", "B", "")
	before := runtime.NumGoroutine()
	for range 20 {
		searchOf(t, m, "HELLO", "WORXD", api.MaxHands)
		Search(m, "HELLO", "WORXD", 0)
	}
	// A goroutine that has told that it is done may take a moment to be gone.
	for range 100 {
		if runtime.NumGoroutine() <= before {
			return
		}
		time.Sleep(10 * time.Millisecond)
	}
	t.Errorf("%d goroutines; %d before", runtime.NumGoroutine(), before)
}

// Several searches of the same machine do not know of one another.
func TestE1SearchesAtTheSameTime(t *testing.T) {
	m := roomy(machine(t, "IV", "K", "R", "C", "(AB)(TO)"))
	before := whole(m)
	told := writeOf(t, m, "ATTACKATDAWN")
	want := searchOf(t, m, "ATTACKATDAWN", told, 1)
	var all sync.WaitGroup
	for hands := 1; hands <= api.MaxHands; hands++ {
		all.Go(func() {
			if l, err := Search(m, "ATTACKATDAWN", told, hands); err != api.OK || !sameHalts(l, want) {
				t.Errorf("by %d hands Search tells %v, %v; want %v", hands, l, err, want)
			}
		})
	}
	all.Wait()
	if !reflect.DeepEqual(whole(m), before) {
		t.Error("what was handed in has been changed")
	}
}

func TestE2SearchOnlyReads(t *testing.T) {
	m := roomy(machine(t, "IV", "K", "R", "C", "(AB)(TO)"))
	before := whole(m)
	crib := []byte("ATTACKATDAWN")
	told := []byte(writeOf(t, m, string(crib)))
	want := searchBy(m, func(m api.Machine) []api.Guess { return testOnPaper(t, m, string(crib), string(told)) })
	wantTold := string(told)
	got := searchOf(t, m, unsafe.String(&crib[0], len(crib)), unsafe.String(&told[0], len(told)), 4)
	if !reflect.DeepEqual(whole(m), before) || string(crib) != "ATTACKATDAWN" || string(told) != wantTold {
		t.Error("what was handed in has been changed")
	}
	copy(crib, "QQQQQQQQQQQQ")
	copy(told, "WWWWWWWWWWWW")
	m.Wheels[0], m.Rings[0], m.Starts[0] = api.Wheel{}, 99, 99
	if len(want) == 0 || !sameHalts(got, want) {
		t.Errorf("Search tells %v; want %v", got, want)
	}
}

// Each list of what is told is the caller's: what is done to one, or to the room behind it, is not done to another one.
func TestE2HaltsAreNewMemory(t *testing.T) {
	m := machine(t, "I II", "AA", "AA", "B", "")
	want := searchOf(t, m, "HELLO", "WORXD", 4)
	got := searchOf(t, m, "HELLO", "WORXD", 4)
	if len(want) < 2 {
		t.Fatalf("%d windows are told: that tries too little", len(want))
	}
	for i := range got {
		if !slices.Equal(got[i].Starts, want[i].Starts) || !slices.Equal(got[i].Guesses, want[i].Guesses) {
			t.Fatalf("%v is now %v", want[i], got[i])
		}
		starts, guesses := got[i].Starts, got[i].Guesses
		starts, guesses = starts[:cap(starts)], guesses[:cap(guesses)]
		for k := range starts {
			starts[k] = -99
		}
		for k := range guesses {
			guesses[k] = api.Guess{Letter: -99}
		}
	}
	if !slices.Equal(m.Starts, []int{0, 0}) {
		t.Errorf("%v stands now in the windows of what was handed in", m.Starts)
	}
	if again := searchOf(t, m, "HELLO", "WORXD", 4); !sameHalts(again, want) {
		t.Error("another search tells otherwise now")
	}
}
