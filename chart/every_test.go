package chart

import (
	"fmt"
	"math"
	"math/rand"
	"reflect"
	"runtime"
	"slices"
	"sync"
	"testing"
	"time"

	"blackroom/api"
	"blackroom/perm"
)

// allWindows are told one behind the other, the first window's letters in the outermost loop.
func allWindows(many int) [][]int {
	out := [][]int{nil}
	for range many {
		var longer [][]int
		for _, l := range out {
			for c := range api.Letters {
				longer = append(longer, append(slices.Clone(l), c))
			}
		}
		out = longer
	}
	return out
}

func startsOf(m api.Machine) ([]int, bool) { return m.Starts, true }

func sameLists(a, b [][]int) bool { return slices.EqualFunc(a, b, slices.Equal) }

// wheels is a machine of so many wheels.
func wheels(t *testing.T, many int) api.Machine {
	t.Helper()
	return machine(t, []string{"", "III", "II III", "I II III", "IV I II III"}[many], "BCDE"[:many], "QWER"[:many], "B", "(AB)(CZ)")
}

func TestC3EveryInOrder(t *testing.T) {
	for many := 1; many <= api.MaxFound; many++ {
		want := allWindows(many)
		for hands := 1; hands <= api.MaxHands; hands++ {
			got, err := Every(wheels(t, many), hands, startsOf)
			if err != api.OK || !sameLists(got, want) {
				t.Errorf("%d wheels, %d hands: %d found, %v; want all %d in order", many, hands, len(got), err, len(want))
			}
		}
	}
	if first := allWindows(3); !slices.Equal(first[1], []int{0, 0, 1}) || !slices.Equal(first[26], []int{0, 1, 0}) || !slices.Equal(first[676], []int{1, 0, 0}) {
		t.Error("the order that is wanted is wrong")
	}
}

// What look tells comes as it tells it, where it tells true; what it tells beside false does not.
func TestC3EveryTellsWhatLookTells(t *testing.T) {
	type seen struct {
		name string
		sum  int
	}
	look := func(m api.Machine) (seen, bool) {
		sum := m.Starts[0]*7 + m.Starts[1]*3
		return seen{fmt.Sprint(m.Starts), sum}, sum%5 == 0
	}
	var want []seen
	for _, l := range allWindows(2) {
		if x, ok := look(api.Machine{Starts: l}); ok {
			want = append(want, x)
		}
	}
	for hands := 1; hands <= api.MaxHands; hands++ {
		if got, err := Every(wheels(t, 2), hands, look); err != api.OK || !slices.Equal(got, want) {
			t.Errorf("%d hands: %v, %v; want %v", hands, got, err, want)
		}
		none, err := Every(wheels(t, 2), hands, func(m api.Machine) (int, bool) { return 5, false })
		if err != api.OK || len(none) != 0 {
			t.Errorf("%d hands: %v, %v; want none", hands, none, err)
		}
		noughts, err := Every(wheels(t, 1), hands, func(m api.Machine) (struct{}, bool) { return struct{}{}, true })
		if err != api.OK || len(noughts) != api.Letters {
			t.Errorf("%d hands: %v, %v; want 26 of nothing", hands, noughts, err)
		}
	}
}

// Those that stop early and those that are slow do not change the order.
func TestC3EveryWaitsForSlowHands(t *testing.T) {
	look := func(m api.Machine) (int, bool) {
		for range 5 * (api.Letters - m.Starts[0]) {
			runtime.Gosched()
		}
		return m.Starts[0], true
	}
	for range 20 {
		for _, hands := range []int{2, 7, 16} {
			got, err := Every(wheels(t, 1), hands, look)
			if err != api.OK || !slices.Equal(got, numbers(alphabet)) {
				t.Fatalf("%d hands: %v, %v", hands, got, err)
			}
		}
	}
}

// All but the starts is m's own; what m's starts are makes no difference.
func TestC3EveryOfTheSameMachine(t *testing.T) {
	for many := 1; many <= api.MaxFound; many++ {
		m := wheels(t, many)
		m.Wheels[0].Notches = nil
		got, err := Every(m, 3, func(n api.Machine) (bool, bool) {
			n.Starts = m.Starts
			return reflect.DeepEqual(n, m), true
		})
		if err != api.OK || slices.Contains(got, false) {
			t.Errorf("%d wheels: look is handed another machine, %v", many, err)
		}
		m.Starts = numbers("ZZZ")[:many]
		if all, _ := Every(m, 3, startsOf); !sameLists(all, allWindows(many)) {
			t.Errorf("%d wheels: what is found hangs on the starts", many)
		}
	}
}

// desk notes who looks.
type desk struct {
	sync.Mutex
	now, most int
	firsts    map[int]int // how many look at those with this letter in the first window
	begun     []int
	twice     bool
	all       chan bool // closed as soon as all hands have begun
	once      sync.Once
}

func (d *desk) come(first, hands int) {
	d.Lock()
	defer d.Unlock()
	d.now++
	d.most = max(d.most, d.now)
	if !slices.Contains(d.begun, first) {
		d.begun = append(d.begun, first)
	}
	d.firsts[first]++
	d.twice = d.twice || d.firsts[first] > 1
	if len(d.begun) == hands {
		d.goOn()
	}
}

func (d *desk) goOn() { d.once.Do(func() { close(d.all) }) }

func (d *desk) leave(first int) {
	d.Lock()
	defer d.Unlock()
	d.now--
	d.firsts[first]--
}

// So many look at the same time as hands says, no more, each at another letter in the first window, and nobody leaves a letter out.
func TestC3EverySoManyHands(t *testing.T) {
	for hands := 1; hands <= api.MaxHands; hands++ {
		d := &desk{firsts: map[int]int{}, all: make(chan bool)}
		_, err := Every(wheels(t, 2), hands, func(m api.Machine) (int, bool) {
			d.come(m.Starts[0], hands)
			defer d.leave(m.Starts[0])
			// Nobody goes on until all hands have begun: if they never do, too few are counted.
			select {
			case <-d.all:
			case <-time.After(20 * time.Second):
				d.goOn()
			}
			return 0, false
		})
		if err != api.OK || d.most != hands || d.twice {
			t.Errorf("%d hands: %d look at the same time, at one letter: %v, %v", hands, d.most, d.twice, err)
		}
		slices.Sort(d.begun[:hands])
		if !slices.Equal(d.begun[:hands], numbers(alphabet[:hands])) || len(d.begun) != api.Letters {
			t.Errorf("%d hands begin at %v", hands, d.begun)
		}
	}
}

// One hand takes one letter behind the other.
func TestC3EveryOneHand(t *testing.T) {
	var seen [][]int
	Every(wheels(t, 2), 1, func(m api.Machine) (int, bool) {
		seen = append(seen, slices.Clone(m.Starts))
		return 0, false
	})
	if !sameLists(seen, allWindows(2)) {
		t.Errorf("%d are looked at; want all, in order", len(seen))
	}
}

func TestC3EveryHasEnded(t *testing.T) {
	before := runtime.NumGoroutine()
	for range 50 {
		Every(wheels(t, 1), api.MaxHands, startsOf)
		Every(wheels(t, 1), api.MaxHands+1, startsOf)
		Every(wheels(t, 4), api.MaxHands, startsOf)
	}
	// One that has told that it is done may not be gone yet.
	for range 1000 {
		if runtime.NumGoroutine() <= before {
			return
		}
		time.Sleep(time.Millisecond)
	}
	t.Errorf("%d goroutines are left of %d", runtime.NumGoroutine(), before)
}

// wantNothing: Every and Find tell this error and nothing else, and nobody has looked.
func wantNothing(t *testing.T, what string, m api.Machine, hands int, want api.Errno) {
	t.Helper()
	got, err := Every(m, hands, func(api.Machine) (int, bool) {
		t.Errorf("%s is looked at", what)
		return 0, true
	})
	if got != nil || err != want {
		t.Errorf("Every of %s, %d hands = %v, %v; want %v", what, hands, got, err, want)
	}
	for _, types := range [][3][]int{{}, {{13, 13}, {13, 13}, {13, 13}}} {
		if found, err := Find(m, types, hands); found != nil || err != want {
			t.Errorf("Find of %s, %d hands = %v, %v; want %v", what, hands, found, err, want)
		}
	}
	if got, err := Every[int](m, hands, nil); got != nil || err != want {
		t.Errorf("Every of %s without a look = %v, %v; want %v", what, got, err, want)
	}
}

var wrongHands = []int{0, -1, api.MaxHands + 1, math.MinInt, math.MaxInt}

func TestC3WrongHands(t *testing.T) {
	for many := 1; many <= api.MaxFound; many++ {
		for _, hands := range wrongHands {
			wantNothing(t, "a right machine", wheels(t, many), hands, api.ErrRange)
		}
	}
}

// Too many wheels are told ahead of wrong hands.
func TestC3TooManyWheels(t *testing.T) {
	for _, hands := range append(wrongHands, 1, 2, api.MaxHands) {
		wantNothing(t, "four wheels", wheels(t, 4), hands, api.ErrMuch)
	}
}

// What is wrong with the machine is told ahead of all else.
func TestC3WrongMachines(t *testing.T) {
	for _, hands := range append(wrongHands, 1, api.MaxHands) {
		eachFlaw(t, func(what string, m api.Machine, want api.Errno) { wantNothing(t, what, m, hands, want) })
		wantNothing(t, "nothing at all", api.Machine{}, hands, api.ErrMany)
		m := wheels(t, 4)
		m.Plugs = written(t, "(ABC)")
		wantNothing(t, "four wheels with wrong plugs", m, hands, api.ErrKind)
	}
}

func TestE1EveryWithoutALook(t *testing.T) {
	for many := 1; many <= api.MaxFound; many++ {
		if got, err := Every[string](wheels(t, many), 4, nil); len(got) != 0 || err != api.OK {
			t.Errorf("%v, %v are found where nobody looks", got, err)
		}
	}
}

func TestE2EveryOnlyReads(t *testing.T) {
	m := roomy(wheels(t, 2))
	types := typesOf(t, m)
	for i := range types {
		types[i] = append(types[i], -7)[:len(types[i])]
	}
	before := whole(m)
	Find(m, types, 5)
	// A look may do with its machine what it likes.
	Every(m, 5, func(n api.Machine) (int, bool) {
		n.Starts, n.Rings = append(n.Starts, 1), append(n.Rings, 1)
		n.Starts[0], n.Rings[0] = -1, -1
		for i := range n.Wheels {
			n.Wheels[i].Notches = append(n.Wheels[i].Notches, 1)
			n.Wheels[i].Notches[0] = -1
			n.Wheels[i].Wiring[0] = -1
		}
		n.Wheels = append(n.Wheels, api.Wheel{Notches: []int{1}})
		return 0, true
	})
	if !reflect.DeepEqual(whole(m), before) {
		t.Error("what was handed in has been changed")
	}
	for _, l := range types {
		if l[:len(l)+1][len(l)] != -7 {
			t.Error("the room behind a type has been changed")
		}
	}
}

// Machines that look hands back share nothing with m, nor with each other.
func TestE2EveryAnswersNewMemory(t *testing.T) {
	m := wheels(t, 1)
	before := whole(m)
	all, err := Every(m, 4, func(n api.Machine) (api.Machine, bool) { return n, true })
	if err != api.OK || len(all) != api.Letters {
		t.Fatalf("%d found, %v", len(all), err)
	}
	for i, n := range all {
		want := copied(m)
		want.Starts = []int{i}
		if !reflect.DeepEqual(n, want) {
			t.Errorf("machine %d is %v; want %v", i, n, want)
		}
		n.Wheels[0].Notches[0], n.Rings[0], n.Starts[0] = -1, -1, -1
		n.Wheels[0] = api.Wheel{}
	}
	if !reflect.DeepEqual(whole(m), before) {
		t.Error("what was found is shared with what was handed in")
	}
}

func TestE2FoundIsNewMemory(t *testing.T) {
	m := noTurns(t)
	found, err := Find(m, typesOf(t, m), 4)
	if err != api.OK || len(found) != 26 {
		t.Fatalf("%d found, %v", len(found), err)
	}
	for i, l := range found {
		if !slices.Equal(l, []int{i, 3}) {
			t.Errorf("found %d is %v", i, l)
		}
		l = l[:cap(l)]
		for k := range l {
			l[k] = -99
		}
	}
	if !slices.Equal(m.Starts, []int{3, 3}) {
		t.Errorf("the starts are now %v", m.Starts)
	}
}

// noTurns has a first wheel that changes nothing, and never turns: what is found is so with each letter in its window.
func noTurns(t *testing.T) api.Machine {
	t.Helper()
	m := machine(t, "I III", "AA", "DD", "B", "")
	m.Wheels[0] = api.Wheel{Wiring: perm.Same()}
	m.Wheels[1].Notches = nil
	return m
}

// foundOnPaper tries all windows, one behind the other.
func foundOnPaper(t *testing.T, m api.Machine, types [3][]int) [][]int {
	t.Helper()
	var out [][]int
	for _, l := range allWindows(len(m.Wheels)) {
		m.Starts = l
		c := chartOnPaper(t, m)
		if slices.Equal(typeOnPaper(c[0]), types[0]) && slices.Equal(typeOnPaper(c[1]), types[1]) && slices.Equal(typeOnPaper(c[2]), types[2]) {
			out = append(out, l)
		}
	}
	return out
}

func wantFound(t *testing.T, m api.Machine, types [3][]int, want [][]int) {
	t.Helper()
	for _, hands := range []int{1, 2, 5, api.MaxHands} {
		if got, err := Find(m, types, hands); err != api.OK || !sameLists(got, want) {
			t.Errorf("Find of %v, %d hands = %v, %v; want %v", types, hands, got, err, want)
		}
	}
}

func TestC3FindOfOneAndTwoWheels(t *testing.T) {
	r := rand.New(rand.NewSource(98))
	for i := range 12 {
		m := someMachine(r, 1+i%2)
		types := typesOf(t, m)
		want := foundOnPaper(t, m, types)
		if !slices.ContainsFunc(want, func(l []int) bool { return slices.Equal(l, m.Starts) }) {
			t.Fatalf("%v is not among %v", m.Starts, want)
		}
		wantFound(t, m, types, want)
	}
}

// By the types alone the windows of three wheels are found, whatever is plugged.
func TestC3FindOfThreeWheels(t *testing.T) {
	m := machine(t, "II I III", "AAA", "KRW", "B", "(AB)(CZ)(DX)(QO)(RE)(MN)")
	types := typesOf(t, m)
	want := foundOnPaper(t, m, types)
	m.Plugs, m.Starts = written(t, "(AZ)(BY)(CX)"), numbers("AAA")
	if got, err := Find(m, types, 8); err != api.OK || !sameLists(got, want) {
		t.Errorf("Find = %v, %v; want %v", got, err, want)
	}
	if len(want) < 1 || len(want) > 100 {
		t.Errorf("%d are found", len(want))
	}
}

// Types are told the longest first, each of them whole: others are nobody's.
func TestC3FindOfTypesThatAreNone(t *testing.T) {
	m := wheels(t, 1)
	types := typesOf(t, m)
	for _, none := range [][3][]int{
		{},
		{{}, {}, {}},
		{{26}, {26}, {26}},
		{types[0], types[1]},
		{types[0], types[1], nil},
		{nil, types[1], types[2]},
		{types[0], append(slices.Clone(types[1]), 0), types[2]},
		{types[0], types[1], types[2][:len(types[2])-1]},
		{{math.MinInt}, {math.MaxInt}, {-1}},
		{make([]int, 1<<16), types[1], types[2]},
	} {
		wantFound(t, m, none, nil)
	}
}

// Each of the three types is asked for: where one is changed nothing is found any more.
func TestC3FindAsksForAllThree(t *testing.T) {
	m := wheels(t, 2)
	types := typesOf(t, m)
	for i := range types {
		other := types
		other[i] = []int{26}
		wantFound(t, m, other, nil)
		other[i] = slices.Clone(types[i])
		slices.Reverse(other[i])
		if !slices.Equal(other[i], types[i]) {
			wantFound(t, m, other, nil)
		}
	}
}
