package rotor

import (
	"math/rand"
	"reflect"
	"slices"
	"strconv"
	"strings"
	"testing"
	"unsafe"

	"blackroom/api"
	"blackroom/perm"
)

func fault(e api.Errno, at int) api.Fault { return api.Fault{Err: e, At: at} }

// head keeps what a test tells short.
func head(text string) string { return strconv.Quote(text[:min(len(text), 40)]) }

// numbers of letters.
func numbers(letters string) []int {
	out := make([]int, len(letters))
	for i := range out {
		out[i] = strings.IndexByte(alphabet, letters[i])
	}
	return out
}

// told26 is what A to Z go to, where they go to letters.
func told26(p api.Perm) string {
	out := ""
	for _, to := range p {
		if to < 0 || to >= api.Letters {
			out += "?"
		} else {
			out += alphabet[to : to+1]
		}
	}
	return out
}

func plugged(t *testing.T, written string) api.Perm {
	t.Helper()
	p, f := perm.Read(written)
	if f.Err != api.OK {
		t.Fatalf("%q are no plugs: %v", written, f)
	}
	return p
}

// machine is set up by names and letters.
func machine(t *testing.T, wheels, rings, starts, mirror, plugs string) api.Machine {
	t.Helper()
	m := api.Machine{Rings: numbers(rings), Starts: numbers(starts), Plugs: plugged(t, plugs)}
	for _, name := range strings.Fields(wheels) {
		w, err := Known(name)
		if err != api.OK {
			t.Fatalf("the wheel %s: %v", name, err)
		}
		m.Wheels = append(m.Wheels, w)
	}
	var err api.Errno
	if m.Reflector, err = Mirror(mirror); err != api.OK {
		t.Fatalf("the reflector %s: %v", mirror, err)
	}
	return m
}

// cut leaves the first wheels alone.
func cut(m *api.Machine, many int) {
	m.Wheels, m.Rings, m.Starts = m.Wheels[:many], m.Rings[:many], m.Starts[:many]
}

// spoil writes over a list and the spare room behind it.
func spoil(l []int) {
	l = l[:cap(l)]
	for i := range l {
		l[i] = -99
	}
}

func newOf(t *testing.T, m api.Machine) *Rotor {
	t.Helper()
	r, err := New(m)
	if r == nil || err != api.OK {
		t.Fatalf("New = %v, %v", r, err)
	}
	return r
}

func wantWindow(t *testing.T, what string, r *Rotor, want []int) {
	t.Helper()
	if got := r.Window(); !slices.Equal(got, want) {
		t.Errorf("%s: %v in the windows; want %v", what, got, want)
	}
}

func wantWrite(t *testing.T, m api.Machine, text, want string, wantFault api.Fault) {
	t.Helper()
	if got, f := Write(m, text); got != want || f != wantFault {
		t.Errorf("Write of %s = %s of %d letters, %v; want %s of %d, %v", head(text), head(got), len(got), f, head(want), len(want), wantFault)
	}
}

func somePerm(r *rand.Rand) api.Perm { return api.Perm(r.Perm(api.Letters)) }

// somePairs changes so many pairs of letters with each other.
func somePairs(r *rand.Rand, pairs int) api.Perm {
	p, order := perm.Same(), r.Perm(api.Letters)
	for i := range pairs {
		a, b := order[2*i], order[2*i+1]
		p[a], p[b] = b, a
	}
	return p
}

func someList(r *rand.Rand, long int) []int {
	out := make([]int, long)
	for i := range out {
		out[i] = r.Intn(api.Letters)
	}
	return out
}

// someMachine has any wirings, and up to so many notches a wheel.
func someMachine(r *rand.Rand, many, notches int) api.Machine {
	m := api.Machine{Rings: someList(r, many), Starts: someList(r, many), Reflector: somePairs(r, 13), Plugs: somePairs(r, r.Intn(14))}
	for range many {
		m.Wheels = append(m.Wheels, api.Wheel{Wiring: somePerm(r), Notches: someList(r, r.Intn(notches+1))})
	}
	return m
}

func someText(r *rand.Rand, long int) string {
	out := make([]byte, long)
	for i := range out {
		out[i] = alphabet[r.Intn(api.Letters)]
	}
	return string(out)
}

// stepOnPaper notes first which wheels turn, by the windows as they are, and then writes down new ones.
func stepOnPaper(wheels []api.Wheel, windows []int) []int {
	last, turns := len(wheels)-1, map[int]bool{}
	turns[last] = true
	for i := range wheels {
		if i != last && slices.Contains(wheels[i+1].Notches, windows[i+1]) {
			turns[i] = true
		}
		if i != 0 && slices.Contains(wheels[i].Notches, windows[i]) {
			turns[i] = true
		}
	}
	out := slices.Clone(windows)
	for i := range turns {
		// Each letter stands here where the next one stands in the alphabet.
		out[i] = strings.IndexByte("ZABCDEFGHIJKLMNOPQRSTUVWXY", alphabet[windows[i]])
	}
	return out
}

// chained is all of these, one behind the other.
func chained(t *testing.T, all ...api.Perm) api.Perm {
	t.Helper()
	out := perm.Same()
	for _, p := range all {
		var err api.Errno
		if out, err = perm.Then(out, p); err != api.OK {
			t.Fatalf("Then = %v", err)
		}
	}
	return out
}

func undone(t *testing.T, p api.Perm) api.Perm {
	t.Helper()
	out, err := perm.Back(p)
	if err != api.OK {
		t.Fatalf("Back = %v", err)
	}
	return out
}

// movedOn takes each letter so many further on.
func movedOn(by int) api.Perm {
	by = (by%api.Letters + api.Letters) % api.Letters
	return told(alphabet[by:] + alphabet[:by])
}

// nowOnPaper is the way to the reflector, the reflector, and the way back.
func nowOnPaper(t *testing.T, m api.Machine, windows []int) api.Perm {
	t.Helper()
	way := m.Plugs
	for i := len(m.Wheels) - 1; i >= 0; i-- {
		by := windows[i] - m.Rings[i]
		way = chained(t, way, movedOn(by), m.Wheels[i].Wiring, movedOn(-by))
	}
	return chained(t, way, m.Reflector, undone(t, way))
}

func TestM3Windows(t *testing.T) {
	for _, c := range []struct{ wheels, windows string }{
		{"I II III", "AAA AAB AAC"},
		{"I II III", "AAU AAV ABW ABX"},     // V takes the middle wheel along
		{"I II III", "ADU ADV AEW BFX BFY"}, // E takes the first one along, and itself turns
		{"I II III", "QEV RFW RFX"},         // Q of the first wheel takes nothing along
		{"I II III", "QAA QAB QAC"},         // and does not turn it
		{"I II III", "ZEA AFB AFC"},         // behind Z comes A
		{"I II III", "AZV AAW AAX"},
		{"I II III", "AEV BFW BFX"}, // the middle wheel has two reasons, and turns once
		{"I II III", "AAZ AAA AAB"},
		{"III II I", "KDO KDP KDQ KER LFS LFT LFU"},
		{"IV V II", "JZE KAF KAG"},
		{"I", "P Q R S"},
		{"I", "X Y Z A B"},
		{"II III", "AU AV BW BX"},
		{"II III", "EU EV FW FX"}, // E of the first wheel does not turn it again
		{"II III", "ZV AW"},
		{"IV III II I", "AAAP AAAQ AABR AABS"},
		{"IV III II I", "AADP AADQ AAER ABFS ABFT"},
		{"IV III II I", "AUDQ AUER AVFS BWFT BWFU"}, // two wheels turn that nothing to their right takes along
		{"IV III II I", "JVEQ KWFR KWFS"},
		{"IV III II I", "JAAA JAAB"},
		{"V V V V", "ZZZZ AAAA AAAB"},
		{"V V V V", "YYYZ YYZA YZAB ZAAC ZAAD"},
	} {
		windows := strings.Fields(c.windows)
		for _, rings := range []string{"AAAA", "GZBX"} {
			r := newOf(t, machine(t, c.wheels, rings[:len(windows[0])], windows[0], "B", ""))
			for i, w := range windows {
				if i > 0 {
					r.Step()
				}
				wantWindow(t, c.wheels+" from "+windows[0], r, numbers(w))
			}
		}
	}
}

// The first wheel of three goes round in 26 times 25 times 26 keys: the middle one turns twice each time it takes it along.
func TestM3GoesRound(t *testing.T) {
	r := newOf(t, machine(t, "I II III", "AAA", "BGA", "B", ""))
	start, keys := r.Window(), 0
	for again := false; !again && keys < 20000; keys++ {
		r.Step()
		again = slices.Equal(r.Window(), start)
	}
	if keys != 26*25*26 {
		t.Errorf("the windows come again behind %d keys", keys)
	}
}

func TestM3AllWindows(t *testing.T) {
	m := machine(t, "I II III", "AAA", "AAA", "B", "")
	for n := range 26 * 26 * 26 {
		m.Starts = []int{n / 676, n / 26 % 26, n % 26}
		r := newOf(t, m)
		wantWindow(t, "New", r, m.Starts)
		r.Step()
		wantWindow(t, "Step", r, stepOnPaper(m.Wheels, m.Starts))
	}
}

// A wheel without notches takes nothing along; with all of them, always.
func TestM3NoneAndAllNotches(t *testing.T) {
	all := make([]int, api.Letters)
	for i := range all {
		all[i] = i
	}
	for many := 1; many <= api.MaxWheels; many++ {
		for which := range 1 << many {
			m := machine(t, "I II III IV", "AAAA", "XYZA", "C", "")
			cut(&m, many)
			for i := range m.Wheels {
				m.Wheels[i].Notches = nil
				if which>>i&1 == 1 {
					m.Wheels[i].Notches = all
				}
			}
			wantSteps(t, m, 60)
		}
	}
}

// wantSteps holds the windows against those on paper, key by key.
func wantSteps(t *testing.T, m api.Machine, keys int) {
	t.Helper()
	r, windows := newOf(t, m), m.Starts
	wantWindow(t, "New", r, windows)
	for range keys {
		r.Step()
		windows = stepOnPaper(m.Wheels, windows)
		wantWindow(t, "Step", r, windows)
	}
}

func TestM3AsOnPaper(t *testing.T) {
	r := rand.New(rand.NewSource(81))
	for many := 1; many <= api.MaxWheels; many++ {
		for range 50 {
			wantSteps(t, someMachine(r, many, r.Intn(30)), 100)
		}
	}
}

// The order in which notches are listed makes no difference, nor how often.
func TestM3NotchesInAnyOrder(t *testing.T) {
	m, other := machine(t, "I II III", "AAA", "AAA", "B", ""), machine(t, "I II III", "AAA", "AAA", "B", "")
	m.Wheels[1].Notches, other.Wheels[1].Notches = []int{0, 4, 25}, []int{25, 4, 4, 0, 25}
	m.Wheels[2].Notches, other.Wheels[2].Notches = []int{1, 2}, []int{2, 1, 1}
	a, b := newOf(t, m), newOf(t, other)
	for range 700 {
		a.Step()
		b.Step()
		wantWindow(t, "in another order", a, b.Window())
	}
}

// Machines that were set up on paper, and what A to Z become in them.
func TestM4Now(t *testing.T) {
	for _, c := range []struct{ wheels, rings, starts, mirror, plugs, want string }{
		// A goes by III to B, by II to J, by I to Z, by the reflector to T, and back to L, K and U.
		{"I II III", "AAA", "AAA", "B", "", "UEJOBTPZWCNSRKDGVMLFAQIYXH"},
		{"I II III", "BBB", "BBB", "B", "", "UEJOBTPZWCNSRKDGVMLFAQIYXH"}, // the wirings stand alike
		{"I", "A", "A", "B", "", "HKMSFEPANLBJCIUGZYDVOTXWRQ"},
		{"V", "A", "B", "C", "", "EDHBAZLCMNTGIJURXPVKOSYQWF"},
		{"V", "B", "A", "C", "", "ITYWHQZEARLKOXMSFJPBVUDNCG"}, // not so far the other way
		{"III IV", "CZ", "ZC", "C", "(AZ)", "NEFOBCUSQZMVKADXITHRGLYPWJ"},
		{"II IV V", "BUL", "BLA", "B", "(AV)(BS)(CG)(DL)(FU)(HZ)(IN)(KM)(OW)(RX)", "QNIMVJRYCFOZDBKWAGXUTEPSHL"},
		{"IV III II I", "BCDE", "IVEQ", "C", "(QW)(ER)(TZ)(UI)(OP)(AS)(DF)(GH)(JK)(LY)(XC)(VB)(NM)", "XNHYMUZCQPSTEBRJIOKLFWVADG"},
	} {
		r := newOf(t, machine(t, c.wheels, c.rings, c.starts, c.mirror, c.plugs))
		for range 2 { // nothing turns by it
			if got := told26(r.Now()); got != c.want {
				t.Errorf("Now of %v = %s; want %s", c, got, c.want)
			}
		}
	}
}

func TestM4NowAsOnPaper(t *testing.T) {
	r := rand.New(rand.NewSource(82))
	for many := 1; many <= api.MaxWheels; many++ {
		for range 30 {
			m := someMachine(r, many, 3)
			x := newOf(t, m)
			for range 20 {
				if got, want := x.Now(), nowOnPaper(t, m, x.Window()); got != want {
					t.Errorf("Now at %v = %v; want %v", x.Window(), got, want)
				}
				x.Step()
			}
		}
	}
}

// One wheel, each ring and each letter in its window.
func TestM4EachRingAndWindow(t *testing.T) {
	for ring := range api.Letters {
		for start := range api.Letters {
			m := machine(t, "IV", alphabet[ring:ring+1], alphabet[start:start+1], "C", "(AM)(ZE)")
			if got, want := newOf(t, m).Now(), nowOnPaper(t, m, m.Starts); got != want {
				t.Errorf("Now at %d with the ring at %d = %v; want %v", start, ring, got, want)
			}
		}
	}
}

// No letter of the machine stands for itself, and what it becomes becomes it.
func TestM4NoLetterForItself(t *testing.T) {
	r := rand.New(rand.NewSource(83))
	for range 50 {
		x := newOf(t, someMachine(r, 1+r.Intn(api.MaxWheels), 26))
		for range 30 {
			x.Step()
			p := x.Now()
			for c, to := range p {
				if to == c || p[to] != c {
					t.Errorf("%d becomes %d, and that %d", c, to, p[to])
				}
			}
		}
	}
}

// A key is what Step, and then Now, tell of its letter.
func TestM4Press(t *testing.T) {
	r := rand.New(rand.NewSource(84))
	for range 50 {
		m := someMachine(r, 1+r.Intn(api.MaxWheels), 5)
		pressed, stepped := newOf(t, m), newOf(t, m)
		for range 40 {
			c := r.Intn(api.Letters)
			got, err := pressed.Press(c)
			stepped.Step()
			if want := stepped.Now()[c]; got != want || err != api.OK {
				t.Errorf("Press(%d) = %d, %v; want %d", c, got, err, want)
			}
			wantWindow(t, "Press", pressed, stepped.Window())
		}
	}
}

func TestM4PressEachKey(t *testing.T) {
	for c := range api.Letters {
		m := machine(t, "I II III", "AAA", "AAA", "B", "")
		want := nowOnPaper(t, m, []int{0, 0, 1})[c]
		if got, err := newOf(t, m).Press(c); got != want || err != api.OK {
			t.Errorf("Press(%d) = %d, %v; want %d", c, got, err, want)
		}
	}
}

// With a key that there is not nothing turns, whatever stands in the windows.
func TestM4PressNoKey(t *testing.T) {
	for _, starts := range []string{"AAA", "QEV", "ZZZ"} {
		r := newOf(t, machine(t, "I II III", "AAA", starts, "B", "(AB)"))
		before := *r
		for _, n := range noLetters {
			if got, err := r.Press(n); got != 0 || err != api.ErrRange {
				t.Errorf("Press(%d) = %d, %v", n, got, err)
			}
			wantWindow(t, "Press of no key", r, numbers(starts))
			if *r != before {
				t.Errorf("Press(%d) has changed the machine", n)
			}
		}
		got, err := r.Press(25)
		before.Step()
		if want := before.Now()[25]; got != want || err != api.OK {
			t.Errorf("Press(25) = %d, %v; want %d", got, err, want)
		}
	}
}

const (
	fox     = "THEQUICKBROWNFOXJUMPSOVERTHELAZYDOG"
	keys    = "(QW)(ER)(TZ)(UI)(OP)(AS)(DF)(GH)(JK)(LY)(XC)(VB)(NM)"
	summer  = "(AV)(BS)(CG)(DL)(FU)(HZ)(IN)(KM)(OW)(RX)" // of 1941
	north   = "AUFKLXABTEILUNGXVONXKURTINOWAXKURTINOWAXNORDWESTLXSEBEZXSEBEZXUAFFLIEGERSTRASZERIQTUNGXDUBROWKIXDUBROWKIXOPOTSCHKAXOPOTSCHKAXUMXEINSAQTDREINULLXUHRANGETRETENXANGRIFFXINFXRGTX"
	northIs = "EDPUDNRGYSZRCXNUYTPOMRMBOFKTBZREZKMLXLVEFGUEYSIOZVEQMIKUBPMMYLKLTTDEISMDICAGYKUACTCDOMOHWXMUUIAUBSTSLRNBZSZWNRFXWFYSSXJZVIJHIDISHPRKLKAYUPADTXQSPINQMATLPIFSVKDASCTACDPBOPVHJK"
	slow    = "DREIGEHTLANGSAMABERSIQERVORWAERTSXEINSSIEBENNULLSEQSXUHRXROEMXEINSXINFRGTXDREIXAUFFLIEGERSTRASZEMITANFANGXEINSSEQSXKMXKMXOSTWXKAMENECXK"
	slowIs  = "SFBWDNJUSEGQOBHKRTAREEZMWKPPRBXOHDROEQGBBGTQVPGVKBVVGBIMHUSZYDAJQIROAXSSSNREHYGGRPISEZBOVMQIEMMZCYSGQDGRERVBILEKXYQIRGIRQNRDNVRXCYYTNJR"
)

// Messages of old among them: each is undone by the machine that wrote it.
func TestM4Write(t *testing.T) {
	for _, c := range []struct{ wheels, rings, starts, mirror, plugs, text, want string }{
		{"I II III", "AAA", "AAA", "B", "", "AAAAA", "BDZGO"},
		{"I II III", "BBB", "AAA", "B", "", "AAAAA", "EWTYX"},
		{"I II III", "AAA", "AAA", "B", "", "", ""},
		{"I II III", "AAA", "AAA", "B", "", "A", "B"},
		{"II IV V", "BUL", "BLA", "B", summer, northIs, north},
		{"II IV V", "BUL", "LSD", "B", summer, slowIs, slow},
		{"IV III II I", "BCDE", "IVEQ", "C", keys, fox, "YBNSHTKYXYIKWDDENYGHJSOPTOOGVQKIILU"},
		{"V", "J", "Y", "B", "", strings.Repeat("A", 28), "VCQWPNKTXXRBYGDNOYJZRJZWBIVC"},
		{"II III", "AA", "EU", "C", "", "AAAAAAAA", "GRHBTUCF"},
	} {
		m := machine(t, c.wheels, c.rings, c.starts, c.mirror, c.plugs)
		wantWrite(t, m, c.text, c.want, api.Fault{})
		wantWrite(t, m, c.want, c.text, api.Fault{})
	}
}

// pressedOne presses the keys of a text, one behind the other.
func pressedOne(t *testing.T, m api.Machine, text string) string {
	t.Helper()
	r, out := newOf(t, m), []byte{}
	for _, c := range []byte(text) {
		to, err := r.Press(strings.IndexByte(alphabet, c))
		if err != api.OK {
			t.Fatalf("Press = %v", err)
		}
		out = append(out, alphabet[to])
	}
	return string(out)
}

func TestM4WriteIsPressed(t *testing.T) {
	r := rand.New(rand.NewSource(85))
	for range 100 {
		m, text := someMachine(r, 1+r.Intn(api.MaxWheels), 4), someText(r, r.Intn(200))
		hidden := pressedOne(t, m, text)
		wantWrite(t, m, text, hidden, api.Fault{})
		wantWrite(t, m, hidden, text, api.Fault{})
	}
}

func TestM4WriteLongestTexts(t *testing.T) {
	r := rand.New(rand.NewSource(86))
	m := machine(t, "IV III II I", "ABYZ", "QEVJ", "C", keys)
	for _, text := range []string{strings.Repeat("A", api.MaxText), someText(r, api.MaxText), someText(r, api.MaxText-1)} {
		hidden := pressedOne(t, m, text)
		wantWrite(t, m, text, hidden, api.Fault{})
		wantWrite(t, m, hidden, text, api.Fault{})
		wantWrite(t, m, text+"ZZ", "", fault(api.ErrMuch, 0))
	}
}

func TestM4WriteWrongTexts(t *testing.T) {
	for _, c := range []struct {
		text string
		want api.Fault
	}{
		{"a", fault(api.ErrForm, 0)},
		{"ABAb", fault(api.ErrForm, 3)},
		{"ABAB ", fault(api.ErrForm, 4)},
		{"A@[", fault(api.ErrForm, 1)},
		{"AB[", fault(api.ErrForm, 2)},
		{"PÄ", fault(api.ErrForm, 1)},
		{"AB\x00", fault(api.ErrForm, 2)},
		{"\xff", fault(api.ErrForm, 0)},
		{"AA1", fault(api.ErrForm, 2)},
		{strings.Repeat("A", api.MaxText-1) + "\n", fault(api.ErrForm, api.MaxText-1)},
		{strings.Repeat("A", api.MaxText+1), fault(api.ErrMuch, 0)},
		{strings.Repeat("a", api.MaxText+1), fault(api.ErrMuch, 0)},
	} {
		wantWrite(t, threeWheels(t), c.text, "", c.want)
		wantWrite(t, machine(t, "V", "J", "Y", "B", ""), c.text, "", c.want)
	}
}

// copied shares no memory with m.
func copied(m api.Machine) api.Machine {
	m.Wheels, m.Rings, m.Starts = slices.Clone(m.Wheels), slices.Clone(m.Rings), slices.Clone(m.Starts)
	for i := range m.Wheels {
		m.Wheels[i].Notches = slices.Clone(m.Wheels[i].Notches)
	}
	return m
}

func TestE2NothingIsChanged(t *testing.T) {
	room := make([]int, 0, 40)
	for i := range cap(room) {
		room = append(room, i%api.Letters)
	}
	m := threeWheels(t)
	m.Rings, m.Starts, m.Wheels[1].Notches, m.Wheels[2].Notches = room[:3], room[5:8], room[20:22], room[21:23]
	before, roomBefore := copied(m), slices.Clone(room)
	r := newOf(t, m)
	Wrong(m)
	Write(m, fox)
	for range 200 {
		r.Press(7)
	}
	if !reflect.DeepEqual(m, before) || !slices.Equal(room, roomBefore) {
		t.Error("what was handed in has been changed")
	}
}

func TestE2NothingIsKept(t *testing.T) {
	m := threeWheels(t)
	m.Wheels[2].Notches = []int{1, 3, 5}
	other := copied(m)
	r, want := newOf(t, m), newOf(t, other)
	for i := range m.Wheels {
		spoil(m.Wheels[i].Notches)
		m.Wheels[i] = api.Wheel{}
	}
	spoil(m.Rings)
	spoil(m.Starts)
	for range 100 {
		r.Step()
		want.Step()
		wantWindow(t, "Step", r, want.Window())
		if r.Now() != want.Now() {
			t.Fatal("what was handed in has been kept")
		}
	}
	text := []byte("AAAAA")
	hidden, _ := Write(machine(t, "I II III", "AAA", "AAA", "B", ""), unsafe.String(&text[0], len(text)))
	copy(text, "QQQQQ")
	if hidden != "BDZGO" {
		t.Errorf("%q comes, not BDZGO: what was handed in has been kept", hidden)
	}
}

// A window that was told stays as it was told; what is done to it is not done to the machine.
func TestE2WindowIsNewEachTime(t *testing.T) {
	r := newOf(t, machine(t, "IV III II I", "AAAA", "JVEQ", "B", ""))
	first, second := r.Window(), r.Window()
	r.Step()
	if !slices.Equal(first, numbers("JVEQ")) {
		t.Errorf("the window that was told is now %v", first)
	}
	spoil(first)
	if !slices.Equal(second, numbers("JVEQ")) {
		t.Errorf("another window is now %v", second)
	}
	wantWindow(t, "spoiled", r, numbers("KWFR"))
}

// Several machines do not know of one another, of one set-up neither.
func TestE1MachinesOfTheirOwn(t *testing.T) {
	m := threeWheels(t)
	a, b := newOf(t, m), newOf(t, m)
	for range 30 {
		a.Step()
	}
	wantWindow(t, "one that has not turned", b, m.Starts)
	hidden, _ := Write(m, fox)
	wantWrite(t, m, fox, hidden, api.Fault{})
	if got := b.Now(); got != newOf(t, m).Now() {
		t.Errorf("one that has not turned makes %v of the letters", got)
	}
}

// Lists that are nil and lists without entries are the same.
func TestE3NoNotches(t *testing.T) {
	m, other := threeWheels(t), threeWheels(t)
	for i := range m.Wheels {
		m.Wheels[i].Notches, other.Wheels[i].Notches = nil, []int{}
	}
	a, b := newOf(t, m), newOf(t, other)
	if *a != *b {
		t.Error("no notches are not the same as none")
	}
	a.Step()
	wantWindow(t, "no notches", a, numbers("AAB"))
}
