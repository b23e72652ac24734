package script

import (
	"math"
	"math/rand"
	"reflect"
	"slices"
	"strings"
	"sync"
	"testing"
	"unsafe"

	"blackroom/api"
	"blackroom/hill"
	"blackroom/perm"
	"blackroom/rotor"
)

const alphabet = "ABCDEFGHIJKLMNOPQRSTUVWXYZ"

func fault(e api.Errno, at int) api.Fault { return api.Fault{Err: e, At: at} }

// head keeps what a test tells short.
func head(text string) string { return text[:min(len(text), 60)] }

// What a chain is made of.
func move(n int) api.Step               { return api.Step{Kind: api.StepMove, N: n} }
func added(n int, key string) api.Step  { return api.Step{Kind: api.StepTableau, N: n, Key: key} }
func rail(n int) api.Step               { return api.Step{Kind: api.StepRail, N: n} }
func columns(key string) api.Step       { return api.Step{Kind: api.StepColumns, Key: key} }
func times(m ...[]int) api.Step         { return api.Step{Kind: api.StepHill, Matrix: m} }
func turned(m api.Machine) api.Step     { return api.Step{Kind: api.StepRotor, Machine: m} }
func chain(l ...api.Step) []api.Step    { return l }
func many(n int, s api.Step) []api.Step { return slices.Repeat([]api.Step{s}, n) }

func numbers(letters string) []int {
	out := make([]int, len(letters))
	for i := range out {
		out[i] = strings.IndexByte(alphabet, letters[i])
	}
	return out
}

// machine is set up by names and letters.
func machine(t testing.TB, names, mirror, rings, starts, plugs string) api.Machine {
	t.Helper()
	m := api.Machine{Rings: numbers(rings), Starts: numbers(starts)}
	for _, name := range strings.Split(names, ",") {
		w, err := rotor.Known(name)
		if err != api.OK {
			t.Fatalf("the wheel %s: %v", name, err)
		}
		m.Wheels = append(m.Wheels, w)
	}
	var err api.Errno
	if m.Reflector, err = rotor.Mirror(mirror); err != api.OK {
		t.Fatalf("the reflector %s: %v", mirror, err)
	}
	var f api.Fault
	if m.Plugs, f = perm.Read(plugs); f.Err != api.OK {
		t.Fatalf("the plugs %s: %v", plugs, f)
	}
	return m
}

// oldMachine is that of the document's example 8.
func oldMachine(t testing.TB) api.Machine { return machine(t, "I,II,III", "B", "AAA", "AAA", "") }

func wantWrong(t *testing.T, s api.Step, want api.Errno) {
	t.Helper()
	if got := Wrong(s); got != want {
		t.Errorf("Wrong(%d, %d, %q, %v, ..) = %d; want %d", s.Kind, s.N, head(s.Key), s.Matrix, got, want)
	}
}

func wantRun(t *testing.T, l []api.Step, text, want string, wantFault api.Fault) {
	t.Helper()
	if got, f := Run(l, text); got != want || f != wantFault {
		t.Errorf("Run of %d steps of %q = %q, %v; want %q, %v", len(l), head(text), head(got), f, head(want), wantFault)
	}
}

func wantUndo(t *testing.T, l []api.Step, text, want string, wantFault api.Fault) {
	t.Helper()
	if got, f := Undo(l, text); got != want || f != wantFault {
		t.Errorf("Undo of %d steps of %q = %q, %v; want %q, %v", len(l), head(text), head(got), f, head(want), wantFault)
	}
}

// wantBoth: what a chain makes of a text, and that it is undone.
func wantBoth(t *testing.T, l []api.Step, text, want string) {
	t.Helper()
	wantRun(t, l, text, want, api.Fault{})
	wantUndo(t, l, want, text, api.Fault{})
}

// wantChainFault: what is wrong with a chain is told by all that are given one, whatever text there is.
func wantChainFault(t *testing.T, l []api.Step, want api.Fault) {
	t.Helper()
	for _, text := range []string{"", "ABCD", "a", strings.Repeat("A", api.MaxText+1)} {
		wantRun(t, l, text, "", want)
		wantUndo(t, l, text, "", want)
	}
	wantPrint(t, l, "", want)
}

// edges of a number that must not be outside of low to high.
func wantRange(t *testing.T, low, high int, of func(n int) api.Step) {
	t.Helper()
	for _, n := range []int{low, low + 1, high - 1, high} {
		wantWrong(t, of(n), api.OK)
	}
	for _, n := range []int{low - 1, low - 2, -low - 1, high + 1, high + 2, 1000, 1 << 32, 1<<32 + low, math.MinInt, math.MaxInt} {
		wantWrong(t, of(n), api.ErrRange)
	}
}

func TestS1Moves(t *testing.T) { wantRange(t, 0, 25, move) }

func TestS1Rails(t *testing.T) { wantRange(t, 1, 64, rail) }

func TestS1Tableaux(t *testing.T) {
	wantRange(t, 1, 4, func(n int) api.Step { return added(n, "KEY") })
	// A kind that is none is told ahead of what is wrong with the key.
	for _, key := range []string{"", "a", strings.Repeat("A", 257), strings.Repeat("A", 65537)} {
		wantWrong(t, added(0, key), api.ErrRange)
		wantWrong(t, added(5, key), api.ErrRange)
	}
}

func TestS1Keys(t *testing.T) {
	for _, of := range []func(key string) api.Step{
		columns,
		func(key string) api.Step { return added(api.Vigenere, key) },
		func(key string) api.Step { return added(api.Beaufort, key) },
		func(key string) api.Step { return added(api.Variant, key) },
		func(key string) api.Step { return added(api.Autokey, key) },
	} {
		for _, key := range []string{"A", "Z", "KEY", alphabet, strings.Repeat("Q", 255), strings.Repeat("Q", 256)} {
			wantWrong(t, of(key), api.OK)
		}
		for _, key := range []string{"a", " ", "A B", "KEY ", " KEY", "@", "[", "Ä", "K\x00", "\xff", "K|", strings.Repeat("Q", 300) + "q", "q" + strings.Repeat("Q", 65535)} {
			wantWrong(t, of(key), api.ErrForm)
		}
		for _, key := range []string{"", strings.Repeat("Q", 257), strings.Repeat("Q", 65536)} {
			wantWrong(t, of(key), api.ErrMany)
		}
		for _, key := range []string{strings.Repeat("Q", 65537), strings.Repeat("q", 65537)} {
			wantWrong(t, of(key), api.ErrMuch)
		}
	}
}

func TestS1Matrices(t *testing.T) {
	for _, m := range [][][]int{{{0}}, {{25}}, {{3, 3}, {2, 5}}, {{0, 0}, {0, 0}}, {{1, 2, 3}, {4, 5, 6}, {7, 8, 25}}, slices.Repeat([][]int{{1, 2, 3, 4}}, 4)} {
		wantWrong(t, times(m...), api.OK)
	}
	wantWrong(t, times(), api.ErrMany)
	wantWrong(t, times(slices.Repeat([][]int{{1, 2, 3, 4, 5}}, 5)...), api.ErrMany)
	wantWrong(t, times(slices.Repeat([][]int{nil}, 5)...), api.ErrMany)
	wantWrong(t, times(nil), api.ErrFit)
	wantWrong(t, times([]int{1, 2}), api.ErrFit)
	wantWrong(t, times([]int{1, 2}, []int{3}), api.ErrFit)
	wantWrong(t, times([]int{1}, []int{2, 26}), api.ErrFit)
	wantWrong(t, times([]int{1, 26}, []int{2}), api.ErrRange)
	wantWrong(t, times([]int{-1}), api.ErrRange)
	wantWrong(t, times([]int{1, 2}, []int{3, 26}), api.ErrRange)
}

// spoiled is the example's machine, changed by do.
func spoiled(t *testing.T, do func(m *api.Machine)) api.Step {
	m := oldMachine(t)
	do(&m)
	return turned(m)
}

func TestS1Machines(t *testing.T) {
	wantWrong(t, turned(oldMachine(t)), api.OK)
	wantWrong(t, turned(machine(t, "V", "C", "Z", "Z", "(AZ)")), api.OK)
	wantWrong(t, turned(machine(t, "I,I,V,V", "C", "ABCD", "WXYZ", "(AZ)(BC)(DE)")), api.OK)
	// A machine need not be of old.
	wantWrong(t, spoiled(t, func(m *api.Machine) { m.Wheels[1].Notches = nil }), api.OK)
	wantWrong(t, turned(api.Machine{}), api.ErrMany)
	wantWrong(t, spoiled(t, func(m *api.Machine) { m.Wheels = nil }), api.ErrMany)
	wantWrong(t, turned(machine(t, "I,II,III,IV,V", "B", "AAAAA", "AAAAA", "")), api.ErrMany)
	wantWrong(t, spoiled(t, func(m *api.Machine) { m.Wheels[2].Wiring[7] = 26 }), api.ErrRange)
	wantWrong(t, spoiled(t, func(m *api.Machine) { m.Wheels[2].Wiring[25] = m.Wheels[2].Wiring[0] }), api.ErrFit)
	wantWrong(t, spoiled(t, func(m *api.Machine) { m.Wheels[0].Notches = []int{26} }), api.ErrRange)
	wantWrong(t, spoiled(t, func(m *api.Machine) { m.Rings = []int{0, 0} }), api.ErrFit)
	wantWrong(t, spoiled(t, func(m *api.Machine) { m.Rings[1] = -1 }), api.ErrRange)
	wantWrong(t, spoiled(t, func(m *api.Machine) { m.Starts = nil }), api.ErrFit)
	wantWrong(t, spoiled(t, func(m *api.Machine) { m.Starts[1] = 26 }), api.ErrRange)
	wantWrong(t, spoiled(t, func(m *api.Machine) { m.Reflector = api.Perm{} }), api.ErrFit)
	wantWrong(t, spoiled(t, func(m *api.Machine) { m.Reflector = perm.Same() }), api.ErrKind)
	wantWrong(t, spoiled(t, func(m *api.Machine) { m.Plugs = api.Perm{} }), api.ErrFit)
	wantWrong(t, spoiled(t, func(m *api.Machine) { m.Plugs[0], m.Plugs[1], m.Plugs[2] = 1, 2, 0 }), api.ErrKind)
}

// kindsWrong have some of everything, and a kind that is none.
func kindsWrong(t *testing.T) (out []api.Step) {
	for _, kind := range []int{0, -1, -6, 7, 8, 100, 1<<32 + 1, math.MinInt, math.MaxInt} {
		out = append(out, api.Step{Kind: kind}, api.Step{Kind: kind, N: 1, Key: "KEY", Matrix: [][]int{{1}}, Machine: oldMachine(t)})
	}
	return out
}

func TestS1Kinds(t *testing.T) {
	for _, s := range kindsWrong(t) {
		wantWrong(t, s, api.ErrKind)
		wantChainFault(t, chain(s), fault(api.ErrKind, 0))
		wantChainFault(t, chain(move(1), s), fault(api.ErrKind, 1))
	}
}

// eachKind is a right step of each kind, each tableau among them.
func eachKind(t testing.TB) []api.Step {
	return chain(move(3), added(api.Vigenere, "LEMON"), added(api.Beaufort, "LEMON"), added(api.Variant, "LEMON"), added(api.Autokey, "LEMON"), rail(3), columns("ZEBRA"), times([]int{3, 3}, []int{2, 5}), turned(oldMachine(t)))
}

// cluttered has wrong things in all fields that the step's kind does not name.
func cluttered(s api.Step) api.Step {
	out := api.Step{Kind: s.Kind, N: -77, Key: "no key", Matrix: [][]int{{26}, nil}, Machine: api.Machine{Rings: []int{99}, Reflector: api.Perm{-1}}}
	switch s.Kind {
	case api.StepMove, api.StepRail:
		out.N = s.N
	case api.StepTableau:
		out.N, out.Key = s.N, s.Key
	case api.StepColumns:
		out.Key = s.Key
	case api.StepHill:
		out.Matrix = s.Matrix
	case api.StepRotor:
		out.Machine = s.Machine
	}
	return out
}

func TestS1WhatAKindDoesNotNameMeansNothing(t *testing.T) {
	for _, s := range eachKind(t) {
		wantWrong(t, s, api.OK)
		wantWrong(t, cluttered(s), api.OK)
		hidden, f := Run(chain(s), "ATTACKATDAWN")
		if f != (api.Fault{}) {
			t.Errorf("Run of step %d: %v", s.Kind, f)
		}
		wantBoth(t, chain(cluttered(s)), "ATTACKATDAWN", hidden)
		written, _ := Print(chain(s))
		wantPrint(t, chain(cluttered(s)), written, api.Fault{})
	}
}

// wrongSteps have each something wrong of their own.
func wrongSteps(t *testing.T) map[api.Errno]api.Step {
	return map[api.Errno]api.Step{
		api.ErrKind:  {},
		api.ErrForm:  columns("key"),
		api.ErrRange: rail(0),
		api.ErrMuch:  columns(strings.Repeat("A", 65537)),
		api.ErrMany:  columns(""),
		api.ErrFit:   spoiled(t, func(m *api.Machine) { m.Starts = nil }),
	}
}

func TestS1TheFirstWrongStepIsTold(t *testing.T) {
	for err, s := range wrongSteps(t) {
		for _, place := range []int{0, 1, 30, 63} {
			l := many(64, move(1))
			l[place] = s
			wantChainFault(t, l, fault(err, place))
			wantChainFault(t, l[:place+1], fault(err, place))
			for _, other := range wrongSteps(t) {
				if place < 63 {
					l[63] = other
					wantChainFault(t, l, fault(err, place))
				}
			}
		}
	}
}

func TestS1StepsTooMany(t *testing.T) {
	wantBoth(t, many(64, move(1)), "A", "M")
	for _, n := range []int{65, 66, 1000} {
		wantChainFault(t, many(n, move(1)), fault(api.ErrMany, 0))
		wantChainFault(t, many(n, api.Step{}), fault(api.ErrMany, 0))
	}
	l := many(65, move(1))
	l[2] = rail(0)
	wantChainFault(t, l, fault(api.ErrMany, 0))
}

func TestS2Examples(t *testing.T) {
	wantBoth(t, chain(move(1)), "HAL", "IBM")
	wantBoth(t, chain(added(api.Vigenere, "LEMON")), "ATTACKATDAWN", "LXFOPVEFRNHR")
	wantBoth(t, chain(rail(2)), "ABCDE", "ACEBD")
	wantBoth(t, chain(times([]int{3, 3}, []int{2, 5})), "HELP", "HIAT")
	wantBoth(t, chain(turned(oldMachine(t))), "AAAAA", "BDZGO")
}

func TestS2EachKind(t *testing.T) {
	wantBoth(t, chain(move(0)), alphabet, alphabet)
	wantBoth(t, chain(move(3)), alphabet, "DEFGHIJKLMNOPQRSTUVWXYZABC")
	wantBoth(t, chain(move(25)), alphabet, "ZABCDEFGHIJKLMNOPQRSTUVWXY")
	wantBoth(t, chain(added(api.Vigenere, "ABZ")), "AAAZZZ", "ABZZAY")
	wantBoth(t, chain(added(api.Beaufort, "ABZ")), "AAACCC", "ABZYZX")
	wantBoth(t, chain(added(api.Variant, "ABZ")), "AAACCC", "AZBCBD")
	wantBoth(t, chain(added(api.Autokey, "B")), "ABCDE", "BBDFH")
	wantBoth(t, chain(rail(1)), "ABCDE", "ABCDE")
	wantBoth(t, chain(rail(3)), "ABCDEFGHI", "AEIBDFHCG")
	wantBoth(t, chain(rail(64)), alphabet, alphabet)
	wantBoth(t, chain(columns("BABA")), "ABCDEFG", "BFDAECG")
	wantBoth(t, chain(columns("Q")), "ABCDEFG", "ABCDEFG")
	wantBoth(t, chain(times([]int{3})), "ABCZ", "ADGX")
	wantBoth(t, chain(times([]int{0, 1, 0}, []int{0, 0, 1}, []int{1, 0, 0})), "ABCXYZ", "BCAYZX")
	wantBoth(t, chain(turned(machine(t, "V", "C", "Z", "A", ""))), "ATTACKATDAWN", "KHPQMMOCHLIQ")
	wantBoth(t, chain(turned(machine(t, "I,II,III", "B", "AAA", "QEV", "(AB)(CD)"))), "ATTACKATDAWN", "UQKUKTOKGQCB")
}

// Each step is done to what the one ahead of it has made.
func TestS2StepByStep(t *testing.T) {
	wantBoth(t, chain(move(1), rail(2)), "ABCDE", "BDFCE")
	wantBoth(t, chain(rail(2), added(api.Vigenere, "AB")), "ABCDE", "ADECD")
	wantBoth(t, chain(added(api.Vigenere, "AB"), rail(2)), "ABCDE", "ACECE")
	wantBoth(t, chain(added(api.Beaufort, "A"), move(3)), "ABC", "DCB")
	wantBoth(t, chain(move(3), added(api.Beaufort, "A")), "ABC", "XWV")
	wantBoth(t, chain(added(api.Vigenere, "LEMON"), rail(3), columns("ZEBRA")), "ATTACKATDAWN", "OFRNPFHXRLVE")
	wantBoth(t, chain(move(13), move(13)), alphabet, alphabet)
}

// A chain is gone over from its end on, and no further than is asked.
func TestS2FromTheEnd(t *testing.T) {
	var places, seen []int
	for place, s := range fromTheEnd(chain(move(10), move(11), move(12), move(13))) {
		places, seen = append(places, place), append(seen, s.N)
		if place == 1 {
			break
		}
	}
	if !slices.Equal(places, []int{3, 2, 1}) || !slices.Equal(seen, []int{13, 12, 11}) {
		t.Errorf("the steps %d come, at %d", seen, places)
	}
	for place := range fromTheEnd(nil) {
		t.Errorf("a step comes of none, at %d", place)
	}
}

func TestS2WithoutLetters(t *testing.T) {
	for _, s := range eachKind(t) {
		wantBoth(t, chain(s), "", "")
	}
	wantBoth(t, eachKind(t), "", "")
}

func TestS2WrongTexts(t *testing.T) {
	for _, n := range []int{0, 1, 2, 63, 64} {
		l := many(n, move(1))
		for _, text := range []string{"a", " ", "AB C", "ABCDEFGh", "@", "[", "Ä", "A\n", "\x00", "\xff", strings.Repeat("A", 65535) + "a"} {
			wantRun(t, l, text, "", fault(api.ErrForm, n))
			wantUndo(t, l, text, "", fault(api.ErrForm, n))
		}
		for _, text := range []string{strings.Repeat("A", 65537), strings.Repeat("a", 65537)} {
			wantRun(t, l, text, "", fault(api.ErrMuch, n))
			wantUndo(t, l, text, "", fault(api.ErrMuch, n))
		}
	}
	// A text that is wrong is told ahead of one that does not fit, and of what cannot be undone.
	l := chain(times([]int{2, 0}, []int{0, 2}), move(1))
	wantRun(t, l, "abc", "", fault(api.ErrForm, 2))
	wantUndo(t, l, "abc", "", fault(api.ErrForm, 2))
}

func TestS2TextsOfTheGreatestLength(t *testing.T) {
	text := strings.Repeat("ATTACKATDAWNQXYZ", 4096)
	l := many(64, added(api.Autokey, strings.Repeat("KEY", 80)))
	for i, s := range eachKind(t) {
		l[i*7] = s
	}
	hidden, f := Run(l, text)
	if f != (api.Fault{}) || len(hidden) != len(text) || hidden == text {
		t.Fatalf("Run of %d letters: %d, %v", len(text), len(hidden), f)
	}
	wantUndo(t, l, hidden, text, api.Fault{})
}

// Matrices of one to four rows that can be undone, and such that can't.
var (
	one, two, three, four = times([]int{3}), times([]int{3, 3}, []int{2, 5}), times([]int{0, 1, 0}, []int{0, 0, 1}, []int{1, 0, 0}), times([]int{0, 1, 0, 0}, []int{0, 0, 1, 0}, []int{0, 0, 0, 1}, []int{1, 0, 0, 0})
	lost1, lost13, lost2  = times([]int{2}), times([]int{13}), times([]int{1, 1}, []int{1, 1})
	lost3                 = times([]int{1, 0, 0}, []int{0, 1, 0}, []int{0, 0, 0})
)

func TestS2TextsThatDoNotFitAMatrix(t *testing.T) {
	for rows, s := range []api.Step{one, two, three, four} {
		for n := range 30 {
			text := strings.Repeat("A", n)
			if n%(rows+1) == 0 {
				wantBoth(t, chain(move(1), s, move(25)), text, must(t, Run, chain(move(1), s, move(25)), text))
				continue
			}
			wantRun(t, chain(s), text, "", fault(api.ErrFit, 0))
			wantUndo(t, chain(s), text, "", fault(api.ErrFit, 0))
			wantRun(t, chain(rail(2), move(1), s, move(1)), text, "", fault(api.ErrFit, 2))
			wantUndo(t, chain(rail(2), move(1), s, move(1)), text, "", fault(api.ErrFit, 2))
		}
	}
	// Of two that do not fit that one is told which is met first.
	wantRun(t, chain(one, two, three, move(1)), "AAAAA", "", fault(api.ErrFit, 1))
	wantUndo(t, chain(one, two, three, move(1)), "AAAAA", "", fault(api.ErrFit, 2))
	wantRun(t, chain(one, two, three), "AAAA", "", fault(api.ErrFit, 2))
	wantUndo(t, chain(one, two, three), "AAAA", "", fault(api.ErrFit, 2))
	wantRun(t, chain(one, two, three), "AAA", "", fault(api.ErrFit, 1))
	wantUndo(t, chain(one, two, three), "AAA", "", fault(api.ErrFit, 1))
}

// must is what a call answers with which nothing is wrong.
func must(t *testing.T, call func(l []api.Step, text string) (string, api.Fault), l []api.Step, text string) string {
	t.Helper()
	out, f := call(l, text)
	if f != (api.Fault{}) {
		t.Fatalf("a call of %d steps and %q: %v", len(l), head(text), f)
	}
	return out
}

func TestS2MatricesWithoutInverse(t *testing.T) {
	wantRun(t, chain(lost1), "ABN", "ACA", api.Fault{})
	wantRun(t, chain(lost13), "ABC", "ANA", api.Fault{})
	wantRun(t, chain(lost2), "ABCD", "BBFF", api.Fault{})
	for _, s := range []api.Step{lost1, lost13, lost2, lost3} {
		for _, text := range []string{"", "ABCDEF"} {
			wantUndo(t, chain(s), text, "", fault(api.ErrNone, 0))
			wantUndo(t, chain(move(1), s, move(2), rail(3)), text, "", fault(api.ErrNone, 1))
		}
	}
	// A text that does not fit is told ahead of a matrix without inverse; but only of the same step.
	wantUndo(t, chain(lost2), "ABC", "", fault(api.ErrFit, 0))
	wantUndo(t, chain(lost2, one), "ABC", "", fault(api.ErrFit, 0))
	wantUndo(t, chain(lost2, lost1), "ABC", "", fault(api.ErrNone, 1))
	wantUndo(t, chain(lost1, lost2), "ABC", "", fault(api.ErrFit, 1))
	wantUndo(t, chain(lost1, lost2), "ABCD", "", fault(api.ErrNone, 1))
	wantUndo(t, chain(lost1, two), "ABCD", "", fault(api.ErrNone, 0))
	wantUndo(t, chain(lost1, two), "ABC", "", fault(api.ErrFit, 1))
}

// someText is of letters.
func someText(r *rand.Rand, n int) string {
	out := make([]byte, n)
	for i := range out {
		out[i] = alphabet[r.Intn(26)]
	}
	return string(out)
}

func someMatrix(r *rand.Rand) [][]int {
	out := make([][]int, 1+r.Intn(4))
	for y := range out {
		for range out {
			out[y] = append(out[y], r.Intn(26))
		}
	}
	return out
}

// somePlugs are their own undoing.
func somePlugs(r *rand.Rand) api.Perm {
	out, letters := perm.Same(), r.Perm(26)
	for pair := range r.Intn(14) {
		a, b := letters[2*pair], letters[2*pair+1]
		out[a], out[b] = b, a
	}
	return out
}

func someMachine(r *rand.Rand) api.Machine {
	m := api.Machine{Plugs: somePlugs(r)}
	for range 1 + r.Intn(4) {
		w, _ := rotor.Known([]string{"I", "II", "III", "IV", "V"}[r.Intn(5)])
		m.Wheels = append(m.Wheels, w)
		m.Rings, m.Starts = append(m.Rings, r.Intn(26)), append(m.Starts, r.Intn(26))
	}
	m.Reflector, _ = rotor.Mirror([]string{"B", "C"}[r.Intn(2)])
	return m
}

// someStep is right; its matrix perhaps has no inverse.
func someStep(r *rand.Rand) api.Step {
	switch r.Intn(6) {
	case 0:
		return move(r.Intn(26))
	case 1:
		return added(1+r.Intn(4), someText(r, 1+r.Intn(12)))
	case 2:
		return rail(1 + r.Intn(64))
	case 3:
		return columns(someText(r, 1+r.Intn(12)))
	case 4:
		return times(someMatrix(r)...)
	}
	return turned(someMachine(r))
}

func someChain(r *rand.Rand, most int) []api.Step {
	out := make([]api.Step, r.Intn(most+1))
	for i := range out {
		out[i] = someStep(r)
	}
	return out
}

// onPaper does a step letter by letter, as the document's other chapters say it; of a matrix: of a text that fits.
func onPaper(s api.Step, text string) string {
	switch s.Kind {
	case api.StepRail:
		return railOnPaper(s.N, text)
	case api.StepColumns:
		return columnsOnPaper(s.Key, text)
	case api.StepRotor:
		return rotorOnPaper(s.Machine, text)
	}
	out := ""
	for i := range len(text) {
		c := strings.IndexByte(alphabet, text[i])
		switch s.Kind {
		case api.StepMove:
			c += s.N
		case api.StepTableau:
			c = addedOnPaper(s.N, s.Key, text, i)
		case api.StepHill:
			n := len(s.Matrix)
			c = 0
			for x, by := range s.Matrix[i%n] {
				c += by * strings.IndexByte(alphabet, text[i-i%n+x])
			}
		}
		out += alphabet[c%26 : c%26+1]
	}
	return out
}

func addedOnPaper(kind int, key, text string, i int) int {
	long := strings.Repeat(key, len(text)/len(key)+1)
	if kind == api.Autokey {
		long = key + text
	}
	c, k := strings.IndexByte(alphabet, text[i]), strings.IndexByte(alphabet, long[i])
	switch kind {
	case api.Beaufort:
		return 26 + k - c
	case api.Variant:
		return 26 + c - k
	}
	return c + k
}

func railOnPaper(rails int, text string) string {
	rows := make([]string, rails)
	row, down := 0, true
	for i := range len(text) {
		rows[row] += text[i : i+1]
		switch {
		case rails == 1:
		case down:
			row++
			down = row < rails-1
		default:
			row--
			down = row == 0
		}
	}
	return strings.Join(rows, "")
}

func columnsOnPaper(key, text string) string {
	out := ""
	for _, c := range alphabet {
		for x, k := range key {
			for i := x; k == c && i < len(text); i += len(key) {
				out += text[i : i+1]
			}
		}
	}
	return out
}

func rotorOnPaper(m api.Machine, text string) string {
	out := ""
	r, _ := rotor.New(m)
	for i := range len(text) {
		c, _ := r.Press(strings.IndexByte(alphabet, text[i]))
		out += alphabet[c : c+1]
	}
	return out
}

// runOnPaper says what is wrong, too, of a chain and a text that are right: which matrix does not fit.
func runOnPaper(l []api.Step, text string) (string, api.Fault) {
	for i, s := range l {
		if s.Kind == api.StepHill && len(text)%len(s.Matrix) > 0 {
			return "", fault(api.ErrFit, i)
		}
		text = onPaper(s, text)
	}
	return text, api.Fault{}
}

// stuckOnPaper is what keeps a text from being undone.
func stuckOnPaper(l []api.Step, text string) api.Fault {
	for i := range l {
		place := len(l) - 1 - i
		m := l[place].Matrix
		if l[place].Kind != api.StepHill {
			continue
		}
		if len(text)%len(m) > 0 {
			return fault(api.ErrFit, place)
		}
		if d, _ := hill.Det(m); d%2 == 0 || d == 13 {
			return fault(api.ErrNone, place)
		}
	}
	return api.Fault{}
}

func TestS2AsOnPaper(t *testing.T) {
	r := rand.New(rand.NewSource(171))
	for range 4000 {
		l := someChain(r, 6)
		text := someText(r, 12*r.Intn(4))
		if r.Intn(3) == 0 { // it does not fit most matrices
			text += someText(r, r.Intn(12))
		}
		want, f := runOnPaper(l, text)
		wantRun(t, l, text, want, f)
		if f := stuckOnPaper(l, text); f != (api.Fault{}) {
			wantUndo(t, l, text, "", f)
			continue
		}
		wantUndo(t, l, want, text, api.Fault{})
		// What is undone is done again, whatever it was.
		wantRun(t, l, must(t, Undo, l, text), text, api.Fault{})
	}
}

// roomy has spare room behind its entries, in which others stand.
func roomy[T any](l []T, others ...T) []T { return append(slices.Clone(l), others...)[:len(l)] }

// roomyStep has spare room behind all its lists.
func roomyStep(s api.Step) api.Step {
	for y, row := range s.Matrix {
		s.Matrix[y] = roomy(row, 7, 99, -1)
	}
	s.Matrix = roomy(s.Matrix, []int{1}, nil)
	s.Machine.Rings, s.Machine.Starts = roomy(s.Machine.Rings, 99, 3), roomy(s.Machine.Starts, 4, -1)
	for i, w := range s.Machine.Wheels {
		s.Machine.Wheels[i].Notches = roomy(w.Notches, 99, 5)
	}
	s.Machine.Wheels = roomy(s.Machine.Wheels, api.Wheel{}, api.Wheel{Notches: []int{4}})
	return s
}

// roomyChain is made anew each time it is asked for.
func roomyChain(t *testing.T) []api.Step {
	l := eachKind(t)
	for i, s := range l {
		l[i] = roomyStep(s)
	}
	return roomy(l, move(99), api.Step{})
}

// wide is all of a chain, its spare room too.
func wide(l []api.Step) []api.Step {
	l = slices.Clone(l[:cap(l)])
	for i := range l {
		l[i].Matrix = slices.Clone(l[i].Matrix[:cap(l[i].Matrix)])
		for y, row := range l[i].Matrix {
			l[i].Matrix[y] = slices.Clone(row[:cap(row)])
		}
		m := &l[i].Machine
		m.Rings, m.Starts = slices.Clone(m.Rings[:cap(m.Rings)]), slices.Clone(m.Starts[:cap(m.Starts)])
		m.Wheels = slices.Clone(m.Wheels[:cap(m.Wheels)])
		for k, w := range m.Wheels {
			m.Wheels[k].Notches = slices.Clone(w.Notches[:cap(w.Notches)])
		}
	}
	return l
}

func TestE2ChainsAreOnlyRead(t *testing.T) {
	right, wrong := roomyChain(t), roomyChain(t)
	wrong[7].Matrix[1][1] = 26
	for _, l := range [][]api.Step{right, wrong} {
		before := wide(l)
		Run(l, "ATTACKATDAWN")
		Undo(l, "ATTACKATDAWN")
		Run(l, "ABC")
		Undo(l, "ABC")
		Print(l)
		for _, s := range l {
			Wrong(s)
		}
		if !reflect.DeepEqual(wide(l), before) {
			t.Error("a chain that was handed in has been changed")
		}
	}
	// And what stands in spare room means nothing.
	hidden := must(t, Run, eachKind(t), "ATTACKATDAWN")
	wantBoth(t, right, "ATTACKATDAWN", hidden)
}

// Whoever handed a text in may have it in memory that changes: what was answered stays.
func TestE2TextsAreNew(t *testing.T) {
	for _, l := range [][]api.Step{nil, chain(move(0)), chain(rail(1)), chain(columns("A")), chain(added(api.Vigenere, "A")), chain(times([]int{1})), chain(turned(oldMachine(t))), eachKind(t)} {
		for _, call := range []func(l []api.Step, text string) (string, api.Fault){Run, Undo} {
			text := []byte("ATTACKATDAWN")
			got := must(t, call, l, unsafe.String(&text[0], len(text)))
			want := must(t, call, l, "ATTACKATDAWN")
			copy(text, "spoiledspoiled")
			if got != want {
				t.Errorf("%d steps: the answer has become %q; it was %q", len(l), got, want)
			}
		}
	}
}

func TestE3NoStepsNilOrNot(t *testing.T) {
	for _, none := range [][]api.Step{nil, {}, make([]api.Step, 0, 5)} {
		wantBoth(t, none, "", "")
		wantBoth(t, none, "HAL", "HAL")
		wantRun(t, none, "hal", "", fault(api.ErrForm, 0))
		wantUndo(t, none, "hal", "", fault(api.ErrForm, 0))
		wantPrint(t, none, "", fault(api.ErrMany, 0))
	}
	for _, none := range [][][]int{nil, {}} {
		wantWrong(t, api.Step{Kind: api.StepHill, Matrix: none}, api.ErrMany)
	}
	wantWrong(t, turned(api.Machine{Wheels: []api.Wheel{}, Rings: []int{}, Starts: []int{}}), api.ErrMany)
}

// anyStep is most likely wrong.
func anyStep(r *rand.Rand) api.Step {
	s := someStep(r)
	if r.Intn(3) == 0 {
		s.Kind = r.Intn(9) - 1
	}
	if r.Intn(4) == 0 {
		s.N = r.Intn(70) - 2
	}
	if r.Intn(4) == 0 {
		s.Key = "key"[:r.Intn(4)]
	}
	if r.Intn(6) == 0 && len(s.Matrix) > 0 {
		s.Matrix[r.Intn(len(s.Matrix))] = nil
	}
	if r.Intn(6) == 0 {
		s.Machine.Wheels = append(s.Machine.Wheels, api.Wheel{})
	}
	return s
}

// Whatever is handed in: nothing is thrown beyond the edge, a fault stands alone, and it is the chain's.
func TestE1AndE4WhateverIsGiven(t *testing.T) {
	r := rand.New(rand.NewSource(172))
	for range 5000 {
		l := make([]api.Step, r.Intn(4))
		want := api.Fault{}
		for i := range l {
			l[i] = anyStep(r)
			if err := Wrong(l[i]); err != api.OK && want.Err == api.OK {
				want = fault(err, i)
			}
		}
		if want.Err != api.OK {
			wantChainFault(t, l, want)
			continue
		}
		for _, call := range []func(l []api.Step, text string) (string, api.Fault){Run, Undo} {
			if out, f := call(l, "ABCDE"); f.Err == api.OK && (len(out) != 5 || f.At != 0) || f.Err != api.OK && out != "" {
				t.Errorf("%v: %q beside %v", l, out, f)
			}
		}
	}
}

// The table of names is read by all, and changed by none.
func TestE1AtTheSameTime(t *testing.T) {
	l := eachKind(t)
	hidden, written := must(t, Run, l, "ATTACKATDAWN"), ""
	written, _ = Print(l)
	var all sync.WaitGroup
	for range 8 {
		all.Go(func() {
			for range 50 {
				wantBoth(t, l, "ATTACKATDAWN", hidden)
				wantPrint(t, l, written, api.Fault{})
				wantRead(t, written, l, api.Fault{})
				wantRead(t, written+" | ", nil, fault(api.ErrForm, len(written)+3))
			}
		})
	}
	all.Wait()
}
