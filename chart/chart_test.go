package chart

import (
	"math"
	"math/rand"
	"reflect"
	"slices"
	"strings"
	"testing"

	"blackroom/api"
	"blackroom/perm"
	"blackroom/rotor"
)

const alphabet = "ABCDEFGHIJKLMNOPQRSTUVWXYZ"

func fault(e api.Errno, at int) api.Fault { return api.Fault{Err: e, At: at} }

// numbers of letters.
func numbers(letters string) []int {
	out := make([]int, len(letters))
	for i := range out {
		out[i] = strings.IndexByte(alphabet, letters[i])
	}
	return out
}

func written(t *testing.T, cycles string) api.Perm {
	t.Helper()
	p, f := perm.Read(cycles)
	if f.Err != api.OK {
		t.Fatalf("%q is no permutation: %v", cycles, f)
	}
	return p
}

// machine is set up by names and letters.
func machine(t *testing.T, wheels, rings, starts, mirror, plugs string) api.Machine {
	t.Helper()
	m := api.Machine{Rings: numbers(rings), Starts: numbers(starts), Plugs: written(t, plugs)}
	for _, name := range strings.Fields(wheels) {
		w, err := rotor.Known(name)
		if err != api.OK {
			t.Fatalf("the wheel %s: %v", name, err)
		}
		m.Wheels = append(m.Wheels, w)
	}
	var err api.Errno
	if m.Reflector, err = rotor.Mirror(mirror); err != api.OK {
		t.Fatalf("the reflector %s: %v", mirror, err)
	}
	return m
}

// threeWheels is a machine with which nothing is wrong; its lists are its own.
func threeWheels(t *testing.T) api.Machine {
	t.Helper()
	return machine(t, "I II III", "AAA", "AAA", "B", "")
}

// somePairs changes so many pairs of letters with each other.
func somePairs(r *rand.Rand, pairs int) api.Perm {
	p, order := perm.Same(), r.Perm(api.Letters)
	for i := range pairs {
		a, b := order[2*i], order[2*i+1]
		p[a], p[b] = b, a
	}
	return p
}

func someList(r *rand.Rand, long int) []int {
	out := make([]int, long)
	for i := range out {
		out[i] = r.Intn(api.Letters)
	}
	return out
}

// someMachine has any wirings, and any notches.
func someMachine(r *rand.Rand, many int) api.Machine {
	m := api.Machine{Rings: someList(r, many), Starts: someList(r, many), Reflector: somePairs(r, 13), Plugs: somePairs(r, r.Intn(14))}
	for range many {
		m.Wheels = append(m.Wheels, api.Wheel{Wiring: api.Perm(r.Perm(api.Letters)), Notches: someList(r, r.Intn(5))})
	}
	return m
}

// flaw is one thing that is wrong with a machine of three wheels: they are listed in the order in which they are told.
type flaw struct {
	what string
	make func(m *api.Machine)
	want api.Errno
}

func flaws() []flaw {
	return []flaw{
		{"no wheels", func(m *api.Machine) { m.Wheels = nil }, api.ErrMany},
		{"too many wheels", func(m *api.Machine) { m.Wheels = make([]api.Wheel, api.MaxWheels+1) }, api.ErrMany},
		{"a wiring out of bounds", func(m *api.Machine) { m.Wheels[0].Wiring[0] = api.Letters }, api.ErrRange},
		{"a wiring with a letter twice", func(m *api.Machine) { m.Wheels[2].Wiring[1] = m.Wheels[2].Wiring[0] }, api.ErrFit},
		{"a notch out of bounds", func(m *api.Machine) { m.Wheels[2].Notches = []int{3, -1} }, api.ErrRange},
		{"a ring too few", func(m *api.Machine) { m.Rings = m.Rings[:2] }, api.ErrFit},
		{"a ring out of bounds", func(m *api.Machine) { m.Rings[1] = math.MinInt }, api.ErrRange},
		{"no starts", func(m *api.Machine) { m.Starts = nil }, api.ErrFit},
		{"a start too many", func(m *api.Machine) { m.Starts = append(m.Starts, 0) }, api.ErrFit},
		{"a start out of bounds", func(m *api.Machine) { m.Starts[0] = api.Letters }, api.ErrRange},
		{"a reflector of noughts", func(m *api.Machine) { m.Reflector = api.Perm{} }, api.ErrFit},
		{"a reflector that leaves letters", func(m *api.Machine) { m.Reflector = perm.Same() }, api.ErrKind},
		{"plugs out of bounds", func(m *api.Machine) { m.Plugs[0] = math.MaxInt }, api.ErrRange},
		{"plugs that are not their own undoing", func(m *api.Machine) { m.Plugs[0], m.Plugs[1], m.Plugs[2] = 1, 2, 0 }, api.ErrKind},
	}
}

// eachFlaw asks of a machine with one flaw, for each flaw.
func eachFlaw(t *testing.T, ask func(what string, m api.Machine, want api.Errno)) {
	t.Helper()
	for _, x := range flaws() {
		m := threeWheels(t)
		x.make(&m)
		ask(x.what, m, x.want)
	}
}

// copied shares no memory with m.
func copied(m api.Machine) api.Machine {
	m.Wheels, m.Rings, m.Starts = slices.Clone(m.Wheels), slices.Clone(m.Rings), slices.Clone(m.Starts)
	for i := range m.Wheels {
		m.Wheels[i].Notches = slices.Clone(m.Wheels[i].Notches)
	}
	return m
}

// roomy has the same lists with spare room behind them, in which noughts and wrong numbers stand.
func roomy(m api.Machine) api.Machine {
	m = copied(m)
	m.Wheels = append(m.Wheels, api.Wheel{}, api.Wheel{})[:len(m.Wheels)]
	for i, w := range m.Wheels {
		m.Wheels[i].Notches = append(w.Notches, -7, 99)[:len(w.Notches)]
	}
	m.Rings = append(m.Rings, -7, 99)[:len(m.Rings)]
	m.Starts = append(m.Starts, -7, 99)[:len(m.Starts)]
	return m
}

// whole is all that can be reached of m: its lists with the room behind them.
func whole(m api.Machine) api.Machine {
	m.Wheels, m.Rings, m.Starts = m.Wheels[:cap(m.Wheels)], m.Rings[:cap(m.Rings)], m.Starts[:cap(m.Starts)]
	m = copied(m)
	for i, w := range m.Wheels {
		m.Wheels[i].Notches = w.Notches[:cap(w.Notches)]
	}
	return m
}

// becomeAtKeys presses each letter six times, each time on a machine that is newly set up: what it becomes at the six keys.
func becomeAtKeys(t *testing.T, m api.Machine) [6]api.Perm {
	t.Helper()
	var out [6]api.Perm
	for c := range api.Letters {
		told, f := rotor.Write(m, strings.Repeat(alphabet[c:c+1], 6))
		if f.Err != api.OK {
			t.Fatalf("Write = %v", f)
		}
		for k, n := range numbers(told) {
			out[k][c] = n
		}
	}
	return out
}

// chartOnPaper goes letter by letter.
func chartOnPaper(t *testing.T, m api.Machine) [3]api.Perm {
	t.Helper()
	keys := becomeAtKeys(t, m)
	var out [3]api.Perm
	for c := range api.Letters {
		for i := range 3 {
			out[i][c] = keys[i+3][keys[i][c]]
		}
	}
	return out
}

// typeOnPaper goes round from each letter, and counts each round once.
func typeOnPaper(p api.Perm) []int {
	var out []int
	seen := map[int]bool{}
	for c := range api.Letters {
		long := 0
		for at := c; !seen[at]; at = p[at] {
			seen[at] = true
			long++
		}
		if long > 0 {
			out = append(out, long)
		}
	}
	slices.SortFunc(out, func(a, b int) int { return b - a })
	return out
}

func chartOf(t *testing.T, m api.Machine) [3]api.Perm {
	t.Helper()
	c, err := Chart(m)
	if err != api.OK {
		t.Fatalf("Chart = %v", err)
	}
	return c
}

func typesOf(t *testing.T, m api.Machine) [3][]int {
	t.Helper()
	l, err := Types(m)
	if err != api.OK {
		t.Fatalf("Types = %v", err)
	}
	return l
}

func wantChart(t *testing.T, m api.Machine) {
	t.Helper()
	want := chartOnPaper(t, m)
	if got := chartOf(t, m); got != want {
		t.Errorf("Chart of %v = %v; want %v", m, got, want)
	}
	for i, got := range typesOf(t, m) {
		if l := typeOnPaper(want[i]); !slices.Equal(got, l) {
			t.Errorf("Types of %v: %v; want %v", m, got, l)
		}
	}
}

func TestC1OldMachines(t *testing.T) {
	for _, c := range []struct{ wheels, rings, starts, mirror, plugs string }{
		{"I II III", "AAA", "AAA", "B", ""},
		{"I II III", "AAA", "ADS", "B", "(AB)(CZ)"}, // all wheels turn within six keys
		{"III I II", "BGX", "QPE", "C", "(QW)(ER)(TZ)(UI)(OP)(AS)"},
		{"V", "J", "Y", "B", ""}, // Z to A
		{"II III", "AA", "EU", "C", "(AZ)"},
		{"I II III IV", "ABCD", "AQEU", "C", ""},
	} {
		wantChart(t, machine(t, c.wheels, c.rings, c.starts, c.mirror, c.plugs))
	}
}

func TestC1AnyMachines(t *testing.T) {
	r := rand.New(rand.NewSource(91))
	for range 100 {
		wantChart(t, someMachine(r, 1+r.Intn(api.MaxWheels)))
	}
}

// The first key turns before it writes: from A, the wheels I, II and III make B, D, Z, G, O and W of A.
func TestC1TheFirstSixKeys(t *testing.T) {
	c := chartOf(t, threeWheels(t))
	for i, x := range []struct{ from, to string }{{"B", "G"}, {"D", "O"}, {"Z", "W"}} {
		// A became the one at the earlier key, and the other at the later one: so the earlier one goes to the other by way of A.
		from, to := numbers(x.from)[0], numbers(x.to)[0]
		if c[i][from] != to {
			t.Errorf("%s goes to %s; want %s", x.from, alphabet[c[i][from]:c[i][from]+1], x.to)
		}
	}
}

// The cycles come in pairs, all 26 letters are in them, and the longest stand first.
func TestC1TypesComeInPairs(t *testing.T) {
	r := rand.New(rand.NewSource(92))
	for range 100 {
		for _, l := range typesOf(t, someMachine(r, 1+r.Intn(api.MaxWheels))) {
			sum := 0
			for i, n := range l {
				sum += n
				if n != l[i-i%2] || n < 1 {
					t.Errorf("%v are no pairs", l)
					break
				}
			}
			if sum != api.Letters || len(l)%2 != 0 || !slices.IsSortedFunc(l, func(a, b int) int { return b - a }) {
				t.Errorf("%v has %d letters", l, sum)
			}
		}
	}
}

func TestC1TypesSayNothingOfThePlugs(t *testing.T) {
	r := rand.New(rand.NewSource(93))
	for range 20 {
		m := someMachine(r, 1+r.Intn(api.MaxWheels))
		want, changed := typesOf(t, m), false
		before := chartOf(t, m)
		for pairs := range 14 {
			m.Plugs = somePairs(r, pairs)
			if got := typesOf(t, m); !alike(got, want) {
				t.Errorf("plugged otherwise the types are %v; want %v", got, want)
			}
			changed = changed || chartOf(t, m) != before
		}
		if !changed {
			t.Error("the chart itself does not hang on the plugs")
		}
	}
}

func TestC1WrongMachines(t *testing.T) {
	ask := func(what string, m api.Machine, want api.Errno) {
		if got, err := Chart(m); got != [3]api.Perm{} || err != want {
			t.Errorf("Chart of %s = %v, %v; want %v", what, got, err, want)
		}
		if got, err := Types(m); !reflect.DeepEqual(got, [3][]int{}) || err != want {
			t.Errorf("Types of %s = %v, %v; want %v", what, got, err, want)
		}
	}
	eachFlaw(t, ask)
	ask("nothing at all", api.Machine{}, api.ErrMany)
}

func TestE2ChartOnlyReads(t *testing.T) {
	m := roomy(machine(t, "I II III", "CDE", "PDV", "B", "(AB)"))
	before, want := whole(m), chartOnPaper(t, copied(m))
	if got := chartOf(t, m); got != want {
		t.Errorf("Chart = %v; want %v", got, want)
	}
	Types(m)
	Double(m, "ABC")
	if !reflect.DeepEqual(whole(m), before) {
		t.Error("what was handed in has been changed")
	}
}

// Each list of types is the caller's: what is done to one, or to the room behind it, is not done to another one.
func TestE2TypesAreNewMemory(t *testing.T) {
	m := threeWheels(t)
	first, want := typesOf(t, m), typesOf(t, m)
	for i := range first {
		l := first[i][:cap(first[i])]
		for k := range l {
			l[k] = -99
		}
		for k := i + 1; k < 3; k++ {
			if !slices.Equal(first[k], want[k]) {
				t.Errorf("list %d is now %v", k, first[k])
			}
		}
	}
	if got := typesOf(t, m); !alike(got, want) {
		t.Errorf("Types are now %v", got)
	}
}
