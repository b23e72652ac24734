package rotor

import (
	"math"
	"math/rand"
	"testing"

	"blackroom/api"
	"blackroom/perm"
)

// noLetters are no letters' numbers.
var noLetters = []int{-1, -2, -26, api.Letters, api.Letters + 1, 52, 'A', 1 << 32, math.MinInt, math.MaxInt}

// wantWrong: Wrong tells it, New beside no machine, and Write at 0, ahead of what is wrong with the text.
func wantWrong(t *testing.T, what string, m api.Machine, want api.Errno) {
	t.Helper()
	if err := Wrong(m); err != want {
		t.Errorf("Wrong of %s = %v; want %v", what, err, want)
	}
	if r, err := New(m); err != want || (r == nil) != (want != api.OK) {
		t.Errorf("New of %s = %v, %v; want %v", what, r, err, want)
	}
	if want == api.OK {
		return
	}
	for _, text := range []string{"", "A", "Ab", string(make([]byte, api.MaxText+1))} {
		if got, f := Write(m, text); got != "" || f != fault(want, 0) {
			t.Errorf("Write of %s and %s = %s, %v; want %v", what, head(text), head(got), f, want)
		}
	}
}

// flaw is one thing that is wrong: they are listed in the order in which they are told.
type flaw struct {
	what string
	make func(m *api.Machine)
	want api.Errno
}

func flaws() []flaw {
	out := []flaw{{"no wheels", func(m *api.Machine) { m.Wheels = nil }, api.ErrMany}}
	for i := range 3 {
		out = append(out,
			flaw{"a wiring out of bounds", func(m *api.Machine) { m.Wheels[i].Wiring[0] = 26 }, api.ErrRange},
			flaw{"a wiring with a letter twice", func(m *api.Machine) { m.Wheels[i].Wiring[1] = m.Wheels[i].Wiring[0] }, api.ErrFit},
			flaw{"a notch out of bounds", func(m *api.Machine) { m.Wheels[i].Notches = []int{3, -1} }, api.ErrRange},
		)
	}
	return append(out,
		flaw{"a ring too few", func(m *api.Machine) { m.Rings = m.Rings[:2] }, api.ErrFit},
		flaw{"a ring out of bounds", func(m *api.Machine) { m.Rings[1] = 26 }, api.ErrRange},
		flaw{"a start too many", func(m *api.Machine) { m.Starts = append(m.Starts, 0) }, api.ErrFit},
		flaw{"a start out of bounds", func(m *api.Machine) { m.Starts[0] = -1 }, api.ErrRange},
		flaw{"a reflector out of bounds", func(m *api.Machine) { m.Reflector[0] = -1 }, api.ErrRange},
		flaw{"a reflector with a letter twice", func(m *api.Machine) { m.Reflector[1] = m.Reflector[0] }, api.ErrFit},
		flaw{"a reflector that is not its own undoing", func(m *api.Machine) { m.Reflector = told(alphabet[1:] + "A") }, api.ErrKind},
		flaw{"plugs out of bounds", func(m *api.Machine) { m.Plugs[0] = 26 }, api.ErrRange},
		flaw{"plugs with a letter twice", func(m *api.Machine) { m.Plugs[1] = m.Plugs[0] }, api.ErrFit},
		flaw{"plugs that are not their own undoing", func(m *api.Machine) { m.Plugs = told(alphabet[1:] + "A") }, api.ErrKind},
	)
}

// threeWheels is a machine with which nothing is wrong; its lists are its own.
func threeWheels(t *testing.T) api.Machine {
	return machine(t, "I II III", "AAA", "AAA", "B", "(AB)(CZ)")
}

func TestM2OneFlaw(t *testing.T) {
	wantWrong(t, "a right one", threeWheels(t), api.OK)
	for _, x := range flaws() {
		m := threeWheels(t)
		x.make(&m)
		wantWrong(t, x.what, m, x.want)
	}
}

// Of two flaws that one is told which the document names first. The later one is made first: what was made wrong twice is wrong by the first one.
func TestM2TheFirstFlawIsTold(t *testing.T) {
	all := flaws()
	for i, first := range all {
		for _, second := range all[i+1:] {
			m := threeWheels(t)
			second.make(&m)
			first.make(&m)
			wantWrong(t, first.what+", and "+second.what, m, first.want)
		}
	}
}

func TestM2HowManyWheels(t *testing.T) {
	for many := range 10 {
		m := machine(t, "I", "A", "A", "B", "")
		w := m.Wheels[0]
		m.Wheels, m.Rings, m.Starts = make([]api.Wheel, many), make([]int, many), make([]int, many)
		for i := range m.Wheels {
			m.Wheels[i] = w
		}
		want := api.OK
		if many < 1 || many > 4 {
			want = api.ErrMany
		}
		wantWrong(t, "many wheels", m, want)
		// Too many wheels are told ahead of what is wrong with them.
		if many > 4 {
			m.Wheels[0].Wiring[0] = 99
			wantWrong(t, "many wheels that are wrong", m, api.ErrMany)
		}
	}
	wantWrong(t, "nothing at all", api.Machine{}, api.ErrMany)
	wantWrong(t, "a list of no wheels", api.Machine{Wheels: []api.Wheel{}}, api.ErrMany)
	wantWrong(t, "a wheel of noughts", api.Machine{Wheels: make([]api.Wheel, 1)}, api.ErrFit)
}

func TestM2Wirings(t *testing.T) {
	for many := 1; many <= api.MaxWheels; many++ {
		for i := range many {
			for c := range api.Letters {
				for _, n := range noLetters {
					m := machine(t, "I II III IV", "AAAA", "AAAA", "B", "")
					cut(&m, many)
					m.Wheels[i].Wiring[c] = n
					wantWrong(t, "a wiring out of bounds", m, api.ErrRange)
				}
				m := machine(t, "I II III IV", "AAAA", "AAAA", "B", "")
				cut(&m, many)
				m.Wheels[i].Wiring[c] = m.Wheels[i].Wiring[(c+7)%api.Letters]
				wantWrong(t, "a wiring with a letter twice", m, api.ErrFit)
			}
		}
	}
}

// A wheel may have several notches, or none, and one of them more than once.
func TestM2Notches(t *testing.T) {
	all := make([]int, 0, 100)
	for i := range cap(all) {
		all = append(all, i*7%api.Letters)
	}
	for i := range 3 {
		m := threeWheels(t)
		for _, right := range [][]int{nil, {}, {0}, {25}, {25, 0}, {4, 4, 4}, all} {
			m.Wheels[i].Notches = right
			wantWrong(t, "right notches", m, api.OK)
		}
		for _, n := range noLetters {
			for _, wrong := range [][]int{{n}, {n, 0}, {25, n}, {3, n, 4}, append(append([]int{}, all...), n)} {
				m.Wheels[i].Notches = wrong
				wantWrong(t, "a notch out of bounds", m, api.ErrRange)
			}
		}
	}
}

// What lies in the spare room behind a list is none of it.
func TestM2RingsAndStarts(t *testing.T) {
	room := []int{0, 25, 7, 26, -1, 99, 99, 99}
	for many := 1; many <= api.MaxWheels; many++ {
		for long := range len(room) {
			m := machine(t, "I II III IV", "AAAA", "AAAA", "B", "")
			cut(&m, many)
			want := api.OK
			if long != many {
				want = api.ErrFit
			} else if long > 3 {
				want = api.ErrRange
			}
			rings := m.Rings
			m.Rings = room[:long]
			wantWrong(t, "rings", m, want)
			m.Rings, m.Starts = rings, room[:long]
			wantWrong(t, "starts", m, want)
		}
	}
	for i := range 3 {
		for _, n := range noLetters {
			m := threeWheels(t)
			m.Rings[i] = n
			wantWrong(t, "a ring out of bounds", m, api.ErrRange)
			m = threeWheels(t)
			m.Starts[i] = n
			wantWrong(t, "a start out of bounds", m, api.ErrRange)
		}
	}
	for _, none := range [][]int{nil, {}} {
		m := threeWheels(t)
		m.Rings = none
		wantWrong(t, "no rings", m, api.ErrFit)
		m = threeWheels(t)
		m.Starts = none
		wantWrong(t, "no starts", m, api.ErrFit)
	}
}

// cyclesWrong tells by its cycles what a permutation lacks to be a reflector, or plugs: each is of two letters, or, where that is right, of one.
func cyclesWrong(p api.Perm, alone bool) api.Errno {
	long, err := perm.Type(p)
	for _, n := range long {
		if n != 2 && !(n == 1 && alone) {
			return api.ErrKind
		}
	}
	return err
}

func wantPairs(t *testing.T, p api.Perm) {
	t.Helper()
	m := threeWheels(t)
	m.Reflector = p
	wantWrong(t, "the reflector "+told26(p), m, cyclesWrong(p, false))
	m = threeWheels(t)
	m.Plugs = p
	wantWrong(t, "the plugs "+told26(p), m, cyclesWrong(p, true))
}

func TestM2ReflectorAndPlugs(t *testing.T) {
	for _, written := range []string{"", "(AB)", "(AZ)", "(ABC)", "(XYZ)", "(AB)(CDE)", "(ABCDEFGHIJKLMNOPQRSTUVWXYZ)", "(ABCD)(EF)(GH)(IJ)(KL)(MN)(OP)(QR)(ST)(UV)(WX)(YZ)", "(AB)(CD)(EF)(GH)(IJ)(KL)(MN)(OP)(QR)(ST)(UV)(WX)(YZ)", "(AB)(CD)(EF)(GH)(IJ)(KL)(MN)(OP)(QR)(ST)(UV)(WX)", "(CD)(EF)(GH)(IJ)(KL)(MN)(OP)(QR)(ST)(UV)(WX)(YZ)", "(AB)(CD)(EF)(GH)(IJ)(KL)(MN)(OP)(QR)(ST)(UV)(WXYZ)"} {
		wantPairs(t, plugged(t, written))
	}
	for i := range api.Letters {
		for k := range i {
			p := perm.Same()
			p[i], p[k] = k, i
			wantPairs(t, p)
			p, _ = Mirror("B")
			p[i], p[k] = p[k], p[i]
			wantPairs(t, p)
		}
		for _, n := range append(noLetters, 0, 25) {
			p := perm.Same()
			p[i] = n
			wantPairs(t, p)
			p, _ = Mirror("C")
			p[i] = n
			wantPairs(t, p)
		}
	}
}

func TestM2AnyPermutations(t *testing.T) {
	r := rand.New(rand.NewSource(80))
	for range 300 {
		wantPairs(t, somePerm(r))
		wantPairs(t, somePairs(r, r.Intn(14)))
		wantPairs(t, somePairs(r, 13))
	}
}
