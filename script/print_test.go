package script

import (
	"math/rand"
	"slices"
	"strings"
	"testing"
	"unsafe"

	"blackroom/api"
	"blackroom/perm"
)

func wantPrint(t *testing.T, l []api.Step, want string, wantFault api.Fault) {
	t.Helper()
	if got, f := Print(l); got != want || f != wantFault {
		t.Errorf("Print of %d steps = %q, %v; want %q, %v", len(l), head(got), f, head(want), wantFault)
	}
}

func TestS3EachKind(t *testing.T) {
	for _, c := range []struct {
		step api.Step
		want string
	}{
		{move(0), "move 0"},
		{move(9), "move 9"},
		{move(25), "move 25"},
		{added(api.Vigenere, "LEMON"), "vigenere LEMON"},
		{added(api.Beaufort, "A"), "beaufort A"},
		{added(api.Variant, "ZZ"), "variant ZZ"},
		{added(api.Autokey, strings.Repeat("Q", 256)), "autokey " + strings.Repeat("Q", 256)},
		{rail(1), "rail 1"},
		{rail(64), "rail 64"},
		{columns("ZEBRA"), "columns ZEBRA"},
		{times([]int{0}), "hill 1 0"},
		{times([]int{3, 3}, []int{2, 5}), "hill 2 3 3 2 5"},
		{times([]int{1, 2, 3}, []int{4, 5, 6}, []int{7, 8, 25}), "hill 3 1 2 3 4 5 6 7 8 25"},
		{times([]int{0, 1, 2, 3}, []int{4, 5, 6, 7}, []int{8, 9, 10, 11}, []int{12, 13, 14, 15}), "hill 4 0 1 2 3 4 5 6 7 8 9 10 11 12 13 14 15"},
		{turned(machine(t, "I", "B", "A", "A", "")), "rotor I B A A"},
		{turned(machine(t, "V", "C", "Z", "A", "")), "rotor V C Z A"},
		{turned(machine(t, "IV,II", "B", "XY", "ZW", "(CB)(ZA)")), "rotor IV,II B XY ZW (AZ)(BC)"},
		{turned(machine(t, "I,II,III", "B", "AAA", "QEV", "(AB)(CD)")), "rotor I,II,III B AAA QEV (AB)(CD)"},
		{turned(machine(t, "V,V,I,I", "C", "ABCD", "WXYZ", "(E)")), "rotor V,V,I,I C ABCD WXYZ"},
	} {
		wantPrint(t, chain(c.step), c.want, api.Fault{})
		wantPrint(t, chain(c.step, move(1)), c.want+" | move 1", api.Fault{})
		wantPrint(t, chain(rail(2), c.step), "rail 2 | "+c.want, api.Fault{})
		wantRead(t, c.want, chain(c.step), api.Fault{})
	}
}

func TestS3Chains(t *testing.T) {
	wantPrint(t, eachKind(t), "move 3 | vigenere LEMON | beaufort LEMON | variant LEMON | autokey LEMON | rail 3 | columns ZEBRA | hill 2 3 3 2 5 | rotor I,II,III B AAA AAA", api.Fault{})
	wantPrint(t, many(64, move(1)), strings.Repeat("move 1 | ", 63)+"move 1", api.Fault{})
	wantPrint(t, nil, "", fault(api.ErrMany, 0))
}

// noneOfOld are machines with which nothing is wrong, but of other wheels, or of another reflector.
func noneOfOld(t *testing.T) []api.Step {
	return chain(
		spoiled(t, func(m *api.Machine) { m.Wheels[0].Wiring = perm.Same() }),
		spoiled(t, func(m *api.Machine) { w := &m.Wheels[2].Wiring; w[24], w[25] = w[25], w[24] }),
		spoiled(t, func(m *api.Machine) { m.Wheels[0].Notches = nil }),
		spoiled(t, func(m *api.Machine) { m.Wheels[1].Notches = []int{5} }),
		spoiled(t, func(m *api.Machine) { m.Wheels[2].Notches = []int{21, 3} }),
		spoiled(t, func(m *api.Machine) { m.Wheels[2].Notches = []int{3, 21} }),
		// Of old are the wirings with their notches.
		spoiled(t, func(m *api.Machine) { m.Wheels[0].Notches = m.Wheels[1].Notches }),
		spoiled(t, func(m *api.Machine) { m.Wheels[0].Wiring = m.Reflector }),
		spoiled(t, func(m *api.Machine) { m.Reflector, _ = perm.Conjugate(m.Reflector, plugs(t, "(AC)")) }),
		spoiled(t, func(m *api.Machine) { m.Reflector = plugs(t, "(AB)(CD)(EF)(GH)(IJ)(KL)(MN)(OP)(QR)(ST)(UV)(WX)(YZ)") }),
	)
}

func plugs(t *testing.T, written string) api.Perm {
	p, f := perm.Read(written)
	if f.Err != api.OK {
		t.Fatalf("%q are no plugs: %v", written, f)
	}
	return p
}

func TestS3NoneOfOld(t *testing.T) {
	for _, s := range noneOfOld(t) {
		wantWrong(t, s, api.OK)
		wantPrint(t, chain(s), "", fault(api.ErrName, 0))
		wantPrint(t, chain(move(1), turned(oldMachine(t)), s, move(2), s), "", fault(api.ErrName, 2))
		// It writes and undoes all the same; only a name it has not.
		wantBoth(t, chain(s), "ATTACKATDAWN", must(t, Run, chain(s), "ATTACKATDAWN"))
		// What is wrong with the chain is told ahead of that.
		wantPrint(t, chain(s, move(26)), "", fault(api.ErrRange, 1))
		wantPrint(t, many(65, s), "", fault(api.ErrMany, 0))
	}
}

// What is printed is read, as it was.
func TestS3AndS4ThereAndBack(t *testing.T) {
	r := rand.New(rand.NewSource(173))
	for range 3000 {
		l := append(someChain(r, 8), someStep(r))
		written, f := Print(l)
		if f != (api.Fault{}) {
			t.Fatalf("Print of %v: %v", l, f)
		}
		wantRead(t, written, l, api.Fault{})
		if strings.Count(written, "|") != len(l)-1 || strings.Contains(written, "  ") || strings.TrimSpace(written) != written {
			t.Errorf("%q is no chain of %d steps", written, len(l))
		}
	}
	// The longest chain that can be printed can be read.
	longest := slices.Repeat(chain(added(api.Vigenere, strings.Repeat("Q", 256))), 64)
	written, f := Print(longest)
	if f != (api.Fault{}) || len(written) != 64*(9+256)+63*3 {
		t.Errorf("the longest chain has %d bytes, %v", len(written), f)
	}
	wantRead(t, written, longest, api.Fault{})
}

func TestE2WhatIsPrintedIsNew(t *testing.T) {
	key := []byte("LEMON")
	s := unsafe.String(&key[0], len(key))
	got, f := Print(chain(added(api.Vigenere, s), columns(s)))
	copy(key, "other")
	if got != "vigenere LEMON | columns LEMON" || f != (api.Fault{}) {
		t.Errorf("what was printed has become %q, %v", got, f)
	}
}
