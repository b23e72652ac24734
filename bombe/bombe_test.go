package bombe

import (
	"math"
	"math/rand"
	"reflect"
	"slices"
	"strings"
	"testing"
	"unsafe"

	"blackroom/api"
	"blackroom/perm"
	"blackroom/rotor"
)

const alphabet = "ABCDEFGHIJKLMNOPQRSTUVWXYZ"

func fault(e api.Errno, at int) api.Fault { return api.Fault{Err: e, At: at} }

// numbers of letters; of another sign -1.
func numbers(letters string) []int {
	out := make([]int, len(letters))
	for i := range out {
		out[i] = strings.IndexByte(alphabet, letters[i])
	}
	return out
}

func written(t *testing.T, cycles string) api.Perm {
	t.Helper()
	p, f := perm.Read(cycles)
	if f.Err != api.OK {
		t.Fatalf("%q is no permutation: %v", cycles, f)
	}
	return p
}

// machine is set up by names and letters.
func machine(t *testing.T, wheels, rings, starts, mirror, plugs string) api.Machine {
	t.Helper()
	m := api.Machine{Rings: numbers(rings), Starts: numbers(starts), Plugs: written(t, plugs)}
	for _, name := range strings.Fields(wheels) {
		w, err := rotor.Known(name)
		if err != api.OK {
			t.Fatalf("the wheel %s: %v", name, err)
		}
		m.Wheels = append(m.Wheels, w)
	}
	var err api.Errno
	if m.Reflector, err = rotor.Mirror(mirror); err != api.OK {
		t.Fatalf("the reflector %s: %v", mirror, err)
	}
	return m
}

// threeWheels is a machine with which nothing is wrong; its lists are its own.
func threeWheels(t *testing.T) api.Machine {
	t.Helper()
	return machine(t, "I II III", "AAA", "AAA", "B", "")
}

// somePairs changes so many pairs of letters with each other.
func somePairs(r *rand.Rand, pairs int) api.Perm {
	p, order := perm.Same(), r.Perm(api.Letters)
	for i := range pairs {
		a, b := order[2*i], order[2*i+1]
		p[a], p[b] = b, a
	}
	return p
}

func someList(r *rand.Rand, long int) []int {
	out := make([]int, long)
	for i := range out {
		out[i] = r.Intn(api.Letters)
	}
	return out
}

// someMachine has any wirings, and any notches.
func someMachine(r *rand.Rand, many int) api.Machine {
	m := api.Machine{Rings: someList(r, many), Starts: someList(r, many), Reflector: somePairs(r, 13), Plugs: somePairs(r, r.Intn(14))}
	for range many {
		m.Wheels = append(m.Wheels, api.Wheel{Wiring: api.Perm(r.Perm(api.Letters)), Notches: someList(r, r.Intn(5))})
	}
	return m
}

// someTold is as long as crib, and has no letter of it at its place; both are of so many kinds of letters.
func someTold(r *rand.Rand, crib string, kinds int) string {
	out := make([]byte, len(crib))
	for i := range out {
		n := strings.IndexByte(alphabet, crib[i])
		out[i] = alphabet[(n+1+r.Intn(kinds-1))%kinds]
	}
	return string(out)
}

func writeOf(t *testing.T, m api.Machine, text string) string {
	t.Helper()
	out, f := rotor.Write(m, text)
	if f.Err != api.OK {
		t.Fatalf("Write = %v", f)
	}
	return out
}

// flaw is one thing that is wrong with a machine of three wheels.
type flaw struct {
	what string
	make func(m *api.Machine)
	want api.Errno
}

func flaws() []flaw {
	return []flaw{
		{"nothing at all", func(m *api.Machine) { *m = api.Machine{} }, api.ErrMany},
		{"no wheels", func(m *api.Machine) { m.Wheels = nil }, api.ErrMany},
		{"too many wheels", func(m *api.Machine) { m.Wheels = make([]api.Wheel, api.MaxWheels+1) }, api.ErrMany},
		{"a wiring out of bounds", func(m *api.Machine) { m.Wheels[0].Wiring[0] = api.Letters }, api.ErrRange},
		{"a wiring with a letter twice", func(m *api.Machine) { m.Wheels[2].Wiring[1] = m.Wheels[2].Wiring[0] }, api.ErrFit},
		{"a notch out of bounds", func(m *api.Machine) { m.Wheels[2].Notches = []int{3, -1} }, api.ErrRange},
		{"a ring too few", func(m *api.Machine) { m.Rings = m.Rings[:2] }, api.ErrFit},
		{"a ring out of bounds", func(m *api.Machine) { m.Rings[1] = math.MinInt }, api.ErrRange},
		{"no starts", func(m *api.Machine) { m.Starts = nil }, api.ErrFit},
		{"a start too many", func(m *api.Machine) { m.Starts = append(m.Starts, 0) }, api.ErrFit},
		{"a start out of bounds", func(m *api.Machine) { m.Starts[0] = api.Letters }, api.ErrRange},
		{"a reflector of noughts", func(m *api.Machine) { m.Reflector = api.Perm{} }, api.ErrFit},
		{"a reflector that leaves letters", func(m *api.Machine) { m.Reflector = perm.Same() }, api.ErrKind},
		{"plugs of noughts", func(m *api.Machine) { m.Plugs = api.Perm{} }, api.ErrFit},
		{"plugs out of bounds", func(m *api.Machine) { m.Plugs[0] = math.MaxInt }, api.ErrRange},
		{"plugs that are not their own undoing", func(m *api.Machine) { m.Plugs[0], m.Plugs[1], m.Plugs[2] = 1, 2, 0 }, api.ErrKind},
	}
}

// copied shares no memory with m.
func copied(m api.Machine) api.Machine {
	m.Wheels, m.Rings, m.Starts = slices.Clone(m.Wheels), slices.Clone(m.Rings), slices.Clone(m.Starts)
	for i := range m.Wheels {
		m.Wheels[i].Notches = slices.Clone(m.Wheels[i].Notches)
	}
	return m
}

// roomy has the same lists with spare room behind them, in which noughts and wrong numbers stand.
func roomy(m api.Machine) api.Machine {
	m = copied(m)
	m.Wheels = append(m.Wheels, api.Wheel{}, api.Wheel{})[:len(m.Wheels)]
	for i, w := range m.Wheels {
		m.Wheels[i].Notches = append(w.Notches, -7, 99)[:len(w.Notches)]
	}
	m.Rings = append(m.Rings, -7, 99)[:len(m.Rings)]
	m.Starts = append(m.Starts, -7, 99)[:len(m.Starts)]
	return m
}

// whole is all that can be reached of m: its lists with the room behind them.
func whole(m api.Machine) api.Machine {
	m.Wheels, m.Rings, m.Starts = m.Wheels[:cap(m.Wheels)], m.Rings[:cap(m.Rings)], m.Starts[:cap(m.Starts)]
	m = copied(m)
	for i, w := range m.Wheels {
		m.Wheels[i].Notches = w.Notches[:cap(w.Notches)]
	}
	return m
}

// sheet has a mark where a letter has another one as its partner.
type sheet [api.Letters][api.Letters]bool

// followOnPaper goes over the whole sheet again and again, until nothing more comes of it; it does not stop at a contradiction.
func followOnPaper(keys []api.Perm, crib, told string, letter, partner int) sheet {
	var s sheet
	s[letter][partner] = true
	a, b := numbers(crib), numbers(told)
	for {
		before := s
		for x := range s {
			for y := range s[x] {
				if !s[x][y] {
					continue
				}
				s[y][x] = true
				for i := range keys {
					if a[i] == x {
						s[b[i]][keys[i][y]] = true
					}
					if b[i] == x {
						s[a[i]][keys[i][y]] = true
					}
				}
			}
		}
		if s == before {
			return s
		}
	}
}

// pairsOnPaper reads a sheet: false, if a letter has two partners.
func pairsOnPaper(s sheet) (api.Perm, bool) {
	var out api.Perm
	for x := range s {
		out[x] = -1
		for y, marked := range s[x] {
			if marked && out[x] >= 0 {
				return api.Perm{}, false
			}
			if marked {
				out[x] = y
			}
		}
	}
	return out, true
}

// keysOnPaper writes each letter so often as the crib is long, on a machine without plugs.
func keysOnPaper(t *testing.T, m api.Machine, long int) []api.Perm {
	t.Helper()
	m.Plugs = perm.Same()
	out := make([]api.Perm, long)
	for c := range api.Letters {
		for i, n := range numbers(writeOf(t, m, strings.Repeat(alphabet[c:c+1], long))) {
			out[i][c] = n
		}
	}
	return out
}

func mostOnPaper(crib, told string) int {
	many := func(c byte) int { return strings.Count(crib+told, string(c)) }
	out := byte('A')
	for c := byte('Z'); c >= 'A'; c-- {
		if many(c) >= many(out) {
			out = c
		}
	}
	return int(out - 'A')
}

func testOnPaper(t *testing.T, m api.Machine, crib, told string) []api.Guess {
	t.Helper()
	keys, letter := keysOnPaper(t, m, len(crib)), mostOnPaper(crib, told)
	var out []api.Guess
	for partner := range api.Letters {
		if pairs, ok := pairsOnPaper(followOnPaper(keys, crib, told, letter, partner)); ok {
			out = append(out, api.Guess{Letter: letter, Partner: partner, Pairs: pairs})
		}
	}
	return out
}

func testOf(t *testing.T, m api.Machine, crib, told string) []api.Guess {
	t.Helper()
	l, err := Test(m, crib, told)
	if err != api.OK {
		t.Fatalf("Test of %q and %q = %v", crib, told, err)
	}
	return l
}

// wantTest tells how many guesses there are.
func wantTest(t *testing.T, m api.Machine, crib, told string) int {
	t.Helper()
	want := testOnPaper(t, m, crib, told)
	if got := testOf(t, m, crib, told); !slices.Equal(got, want) {
		t.Errorf("Test of %v, %q and %q = %v; want %v", m, crib, told, got, want)
	}
	return len(want)
}

// wantWrong asks both faces: what Test says is wrong, Search says ahead of what Every says.
func wantWrong(t *testing.T, what string, m api.Machine, crib, told string, want api.Errno) {
	t.Helper()
	if l, err := Test(m, crib, told); l != nil || err != want {
		t.Errorf("Test of %s = %v, %v; want %v", what, l, err, want)
	}
	for _, hands := range []int{1, api.MaxHands, 0, -1, api.MaxHands + 1, math.MinInt, math.MaxInt} {
		if l, err := Search(m, crib, told, hands); l != nil || err != want {
			t.Errorf("Search of %s by %d hands = %v, %v; want %v", what, hands, l, err, want)
		}
	}
}

func TestB2WrongMachines(t *testing.T) {
	long := strings.Repeat("A", api.MaxText+1)
	for _, x := range flaws() {
		m := threeWheels(t)
		x.make(&m)
		// The machine comes ahead of the texts.
		for _, texts := range [][2]string{{"AB", "CD"}, {"", ""}, {"a", "A"}, {"A", "a"}, {"A", "A"}, {"A", "BC"}, {long, "A"}} {
			wantWrong(t, x.what, m, texts[0], texts[1], x.want)
		}
	}
}

func TestB2WrongTexts(t *testing.T) {
	a, b := strings.Repeat("A", api.MaxText), strings.Repeat("B", api.MaxText)
	for _, c := range []struct {
		what, crib, told string
		want             api.Errno
	}{
		{"a crib of no letters", "a", "B", api.ErrForm},
		{"told of no letters", "A", "b", api.ErrForm},
		{"a crib with a space", "AB ", "CDE", api.ErrForm},
		{"told with runes", "AB", "Ä", api.ErrForm},
		{"a crib that is too long for a text", a + "A", "B", api.ErrMuch},
		{"told too long for a text", "A", b + "B", api.ErrMuch},
		{"too long, beside no letters", a + "A", "b", api.ErrMuch},
		{"no letters, beside too long", "a", b + "B", api.ErrForm},
		{"too long, of no letters", a + "1", "B", api.ErrMuch},
		{"no crib, beside told of no letters", "", "b", api.ErrForm},
		{"no crib, beside told too long", "", b + "B", api.ErrMuch},
		{"a long crib, beside told of no letters", a[:33], b[:32] + "b", api.ErrForm},
		{"the same letter, and then none", "AB", "A?", api.ErrForm},
		{"no crib, nothing told", "", "", api.ErrMany},
		{"no crib", "", "A", api.ErrMany},
		{"one letter too many", a[:33], b[:33], api.ErrMany},
		{"one letter too many, and told shorter", a[:33], b[:32], api.ErrMany},
		{"one letter too many, and the same ones", a[:33], a[:33], api.ErrMany},
		{"all letters of a text", a, b, api.ErrMany},
		{"told shorter", "AB", "C", api.ErrFit},
		{"told longer", "A", "BC", api.ErrFit},
		{"nothing told", "A", "", api.ErrFit},
		{"told longer than a crib may be", a[:32], b[:33], api.ErrFit},
		{"told much longer", a[:32], b, api.ErrFit},
		{"the same text", "A", "A", api.ErrFit},
		{"the same letter first", "ABC", "AXY", api.ErrFit},
		{"the same letter in the middle", "ABC", "XBY", api.ErrFit},
		{"the same letter last", "ABC", "XYC", api.ErrFit},
		{"the same letter last, of the longest", a[:31] + "Z", b[:31] + "Z", api.ErrFit},
	} {
		for _, wheels := range []string{"I", "I II III", "I II III IV"} {
			many := len(strings.Fields(wheels))
			m := machine(t, wheels, "ABCD"[:many], "QRST"[:many], "B", "(AZ)")
			wantWrong(t, c.what, m, c.crib, c.told, c.want)
		}
	}
}

// said has these partners alone: each letter's is the one that stands behind it.
func said(pairs ...int) api.Perm {
	var out api.Perm
	for c := range out {
		out[c] = -1
	}
	for i := 0; i < len(pairs); i += 2 {
		out[pairs[i]] = pairs[i+1]
	}
	return out
}

// From A, the wheels I, II and III make B of A at the first key. That A has y says that y has A; and that B, which stands against A, has S of y, and S of y has B. These never disagree.
func TestB2ConsequencesOfOnePlace(t *testing.T) {
	m := threeWheels(t)
	s := keysOnPaper(t, m, 1)[0]
	var want []api.Guess
	for y := range api.Letters {
		want = append(want, api.Guess{Letter: 0, Partner: y, Pairs: said(0, y, y, 0, 1, s[y], s[y], 1)})
	}
	if got := testOf(t, m, "A", "B"); s[0] != 1 || !slices.Equal(got, want) {
		t.Errorf("Test tells %v; want %v", got, want)
	}
}

// If C stands against A there: that A has B says that A has C (for C has S of B, which is A); that A has C says that C has A, and S of C too.
func TestB2ContradictionsOfOnePlace(t *testing.T) {
	m := threeWheels(t)
	s := keysOnPaper(t, m, 1)[0]
	var want []api.Guess
	for y := range api.Letters {
		if y != 1 && y != 2 {
			want = append(want, api.Guess{Letter: 0, Partner: y, Pairs: said(0, y, y, 0, 2, s[y], s[y], 2)})
		}
	}
	for _, texts := range [][2]string{{"A", "C"}, {"C", "A"}} {
		if got := testOf(t, m, texts[0], texts[1]); s[0] != 1 || !slices.Equal(got, want) {
			t.Errorf("Test of %v tells %v; want %v", texts, got, want)
		}
	}
}

// The plugs say nothing: neither what Test tells nor what Search tells hangs on them.
func TestB2PlugsMeanNothing(t *testing.T) {
	r := rand.New(rand.NewSource(103))
	for range 20 {
		m := someMachine(r, 1)
		crib := someText(r, 1+r.Intn(api.MaxCrib), 26)
		told := writeOf(t, m, crib)
		want := testOf(t, m, crib, told)
		all, err := Search(m, crib, told, 3)
		for pairs := range 14 {
			m.Plugs = somePairs(r, pairs)
			if got := testOf(t, m, crib, told); !slices.Equal(got, want) {
				t.Errorf("plugged otherwise Test tells %v; want %v", got, want)
			}
			got, otherErr := Search(m, crib, told, 3)
			if err != api.OK || otherErr != api.OK || !reflect.DeepEqual(got, all) {
				t.Errorf("plugged otherwise Search tells %v, %v; want %v, %v", got, otherErr, all, err)
			}
		}
	}
}

func TestB3OldMachines(t *testing.T) {
	for _, c := range []struct{ wheels, rings, starts, mirror, plugs string }{
		{"I", "D", "F", "B", "(AB)(CZ)(EN)(TO)"},
		{"I II III", "AAA", "AAA", "B", ""},
		{"I II III", "AAA", "ADS", "B", "(AB)(CZ)"}, // all wheels turn within the crib
		{"III I II", "BGX", "QPE", "C", "(QW)(ER)(TZ)(UI)(OP)(AS)"},
		{"V", "J", "Y", "B", ""}, // Z to A
		{"II III", "AA", "EU", "C", "(AZ)"},
		{"I II III IV", "ABCD", "AQEU", "C", "(BY)(CX)"}, // Test takes more wheels than Search
	} {
		m := machine(t, c.wheels, c.rings, c.starts, c.mirror, c.plugs)
		for _, crib := range []string{"A", "AB", "HELLO", "WETTERVORHERSAGE", "THEENEMYATTACKSTHEEAST", strings.Repeat("EN", 16), strings.Repeat("X", 32)} {
			if wantTest(t, m, crib, writeOf(t, m, crib)) == 0 {
				t.Errorf("of %q nothing is told, and it was written so", crib)
			}
		}
	}
}

func TestB3AnyMachines(t *testing.T) {
	r := rand.New(rand.NewSource(104))
	some, none := 0, 0
	for range 250 {
		m := someMachine(r, 1+r.Intn(api.MaxWheels))
		kinds := 2 + r.Intn(25)
		crib := someText(r, 1+r.Intn(api.MaxCrib), kinds)
		told := someTold(r, crib, kinds)
		if wantTest(t, m, crib, told) > 0 {
			some++
		} else {
			none++
		}
		wantTest(t, m, crib, writeOf(t, m, crib))
	}
	if some < 30 || none < 30 {
		t.Errorf("%d tell something, and %d nothing: that tries too little", some, none)
	}
}

// The letter that stands most often in both together; of as many the first one of the alphabet.
func TestB3TheLetter(t *testing.T) {
	for _, c := range []struct{ crib, told, want string }{
		{"A", "B", "A"},
		{"Z", "Y", "Y"},
		{"ZB", "BY", "B"},
		{"AAB", "BCC", "A"},   // A twice, B twice, C twice
		{"ZZB", "BCZ", "Z"},   // Z three times
		{"AZB", "ZCZ", "Z"},   // most in told
		{"ZAZ", "BZC", "Z"},   // most in both together, in neither alone
		{"QX", "XQ", "Q"},     // each as often as the other
		{"BCDE", "FGHI", "B"}, // each once
		{strings.Repeat("Z", 32), strings.Repeat("A", 31) + "B", "Z"},
		{strings.Repeat("A", 31) + "B", strings.Repeat("Z", 32), "Z"},
		{strings.Repeat("Z", 32), strings.Repeat("A", 32), "A"},
	} {
		if got := numbers(c.want)[0]; got != mostOnPaper(c.crib, c.told) {
			t.Fatalf("of %q and %q it is %s on paper", c.crib, c.told, alphabet[mostOnPaper(c.crib, c.told):][:1])
		}
		told := false
		for start := range api.Letters {
			m := machine(t, "I", "A", alphabet[start:start+1], "B", "")
			for _, g := range testOf(t, m, c.crib, c.told) {
				told = true
				if g.Letter != numbers(c.want)[0] {
					t.Errorf("of %q and %q it is %d; want %s", c.crib, c.told, g.Letter, c.want)
				}
			}
			wantTest(t, m, c.crib, c.told)
		}
		if !told && len(c.crib) < 5 {
			t.Errorf("of %q and %q nothing is told, wherever the machine stands", c.crib, c.told)
		}
	}
}

// isGuess holds a guess against what a guess must be, whatever machine it is of.
func isGuess(g api.Guess) bool {
	if g.Pairs[g.Letter] != g.Partner {
		return false
	}
	for x, y := range g.Pairs {
		if y != -1 && (y < 0 || y >= api.Letters || g.Pairs[y] != x) {
			return false
		}
	}
	return true
}

func TestB3GuessesArePairs(t *testing.T) {
	r := rand.New(rand.NewSource(105))
	for range 300 {
		m := someMachine(r, 1+r.Intn(api.MaxWheels))
		crib := someText(r, 1+r.Intn(8), 26)
		before := -1
		for _, g := range testOf(t, m, crib, someTold(r, crib, 26)) {
			if !isGuess(g) || g.Partner <= before {
				t.Errorf("%v, behind the partner %d", g, before)
			}
			before = g.Partner
		}
	}
}

// The bombe never misses: what is truly plugged is among the guesses, and agrees with it.
func TestB3TestDoesNotMiss(t *testing.T) {
	r := rand.New(rand.NewSource(106))
	for range 500 {
		m := someMachine(r, 1+r.Intn(api.MaxWheels))
		crib := someText(r, 1+r.Intn(api.MaxCrib), 26)
		found := false
		for _, g := range testOf(t, m, crib, writeOf(t, m, crib)) {
			if g.Partner == m.Plugs[g.Letter] {
				found = true
				for x, y := range g.Pairs {
					if y != -1 && y != m.Plugs[x] {
						t.Errorf("%v is plugged, and %v follows from a part of it", m.Plugs, g.Pairs)
						break
					}
				}
			}
		}
		if !found {
			t.Errorf("Test of %v and %q misses what is plugged", m, crib)
		}
	}
}

func TestE2TestOnlyReads(t *testing.T) {
	m := roomy(machine(t, "I II III", "CDE", "PDV", "B", "(AB)(TO)"))
	before := whole(m)
	crib := []byte("THEENEMY")
	told := []byte(writeOf(t, copied(m), string(crib)))
	wantCrib, wantTold := string(crib), string(told)
	want := testOnPaper(t, copied(m), wantCrib, wantTold)
	got := testOf(t, m, unsafe.String(&crib[0], len(crib)), unsafe.String(&told[0], len(told)))
	if !reflect.DeepEqual(whole(m), before) || string(crib) != wantCrib || string(told) != wantTold {
		t.Error("what was handed in has been changed")
	}
	copy(crib, "QQQQQQQQ")
	copy(told, "WWWWWWWW")
	m.Wheels[0], m.Rings[0], m.Starts[0] = api.Wheel{}, 99, 99
	if len(want) == 0 || !slices.Equal(got, want) {
		t.Errorf("Test tells %v; want %v", got, want)
	}
}

func TestE2GuessesAreNewMemory(t *testing.T) {
	m := threeWheels(t)
	want := testOnPaper(t, m, "HELLO", "XYZXY")
	first, second := testOf(t, m, "HELLO", "XYZXY"), testOf(t, m, "HELLO", "XYZXY")
	first = first[:cap(first)]
	for i := range first {
		first[i] = api.Guess{Letter: -99, Partner: -99}
	}
	if third := testOf(t, m, "HELLO", "XYZXY"); len(want) == 0 || !slices.Equal(second, want) || !slices.Equal(third, want) {
		t.Errorf("Test tells %v and %v; want %v", second, third, want)
	}
}
