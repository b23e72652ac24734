package perm

import (
	"slices"
	"testing"

	"blackroom/api"
)

// types are some ways to share the alphabet out among cycles, those that are many and short, few and long, alike and unlike.
var types = [][]int{
	{26},
	{25, 1},
	{24, 2},
	{13, 13},
	{14, 12},
	{9, 9, 8},
	{10, 8, 8},
	{22, 2, 2},
	{24, 1, 1},
}

// ofType lays cycles of the given lengths over letters in the order that order says.
func ofType(lengths []int, order api.Perm) api.Perm {
	var p api.Perm
	at := 0
	for _, n := range lengths {
		for k := range n {
			p[order[at+k]] = order[at+(k+1)%n]
		}
		at += n
	}
	return p
}

func wantType(t *testing.T, p api.Perm, want []int) {
	t.Helper()
	if got, err := Type(p); !slices.Equal(got, want) || err != api.OK {
		t.Errorf("Type(%v) = %v, %d; want %v", p, got, err, want)
	}
}

func ones(n int) []int { return slices.Repeat([]int{1}, n) }

func TestP3TypesWritten(t *testing.T) {
	for _, c := range []struct {
		text string
		long []int
	}{
		{"", nil},
		{"(A)(Z)", nil},
		{"(ABC)", []int{3}},
		{"(XYZ)", []int{3}},
		{"(AB)(CDE)", []int{3, 2}},
		{"(AB)(CD)(EFGHI)(JK)", []int{5, 2, 2, 2}},
		{"(ZA)(YBC)(XDEF)", []int{4, 3, 2}},
		{"(AN)(BO)(CP)(DQ)(ER)(FS)(GT)(HU)(IV)(JW)(KX)(LY)(MZ)", slices.Repeat([]int{2}, 13)},
		{"(ABCDEFGHIJKLMNOPQRSTUVWXYZ)", []int{26}},
		{"(BCDEFGHIJKLMNOPQRSTUVWXYZ)", []int{25}},
	} {
		letters := 0
		for _, n := range c.long {
			letters += n
		}
		wantType(t, must(t, c.text), append(c.long, ones(api.Letters-letters)...))
	}
}

func TestP3TypesLaid(t *testing.T) {
	for _, order := range shuffled(20) {
		for _, want := range types {
			wantType(t, ofType(want, order), want)
			turned := slices.Clone(want)
			slices.Reverse(turned)
			wantType(t, ofType(turned, order), want)
		}
	}
}

func TestP3TypesOfAnyHaveAllLetters(t *testing.T) {
	for _, p := range shuffled(200) {
		got, err := Type(p)
		sum := 0
		for k, n := range got {
			sum += n
			if k > 0 && n > got[k-1] {
				t.Errorf("Type(%v) = %v: a longer one behind a shorter one", p, got)
			}
		}
		if sum != api.Letters || err != api.OK {
			t.Errorf("Type(%v) = %v, %d", p, got, err)
		}
	}
}

// TestP3TypeIsNewMemory writes over one answer, its spare room too, and asks again.
func TestP3TypeIsNewMemory(t *testing.T) {
	p := must(t, "(ABC)(DE)")
	one, _ := Type(p)
	two, _ := Type(p)
	one = one[:cap(one)]
	for i := range one {
		one[i] = -1
	}
	want := append([]int{3, 2}, ones(21)...)
	if !slices.Equal(two, want) {
		t.Errorf("an answer changed with another one: %v", two)
	}
	wantType(t, p, want)
}

// spelled is the permutation that takes the alphabet, letter by letter, to text; behind its end each letter goes to itself.
func spelled(text string) api.Perm {
	p := straight()
	for i := range len(text) {
		p[i] = int(text[i] - 'A')
	}
	return p
}

func TestP3BetweenWritten(t *testing.T) {
	for _, c := range []struct{ p, q, x string }{
		{"", "", ""},
		{"(ABC)", "(ABC)", ""},
		{"(ABC)", "(ACB)", "ACB"},
		{"(AB)", "(CD)", "CDAB"},
		{"(CD)", "(AB)", "CDAB"},
		{"(AB)(CD)", "(AC)(BD)", "ACBD"},
		{"(AD)(BC)", "(AB)(CD)", "ACDB"},
		{"(AB)(CDE)", "(ABC)(DE)", "DEABC"},
		{"(CDE)(AB)", "(ED)(CAB)", "DEABC"},
		{"(XYZ)", "(ABC)", "DEFGHIJKLMNOPQRSTUVWXYZABC"},
		{"(ABC)", "(XYZ)", "XYZABCDEFGHIJKLMNOPQRSTUVW"},
		{"(YZ)", "(ZY)", ""},
		{"(BA)", "(YZ)", "YZABCDEFGHIJKLMNOPQRSTUVWX"},
		{"(ABCDEFGHIJKLMNOPQRSTUVWXYZ)", "(AZYXWVUTSRQPONMLKJIHGFEDCB)", "AZYXWVUTSRQPONMLKJIHGFEDCB"},
		{"(ABCDEFGHIJKLM)(NOPQRSTUVWXYZ)", "(ACEGIKMOQSUWY)(BDFHJLNPRTVXZ)", "ACEGIKMOQSUWYBDFHJLNPRTVXZ"},
	} {
		got, err := Between(must(t, c.p), must(t, c.q))
		wantPerm(t, "Between of "+c.p+" and "+c.q, got, err, spelled(c.x), api.OK)
	}
}

func TestP3BetweenThoseThatAreNotAlike(t *testing.T) {
	for _, c := range []struct{ p, q string }{
		{"", "(AB)"},
		{"(AB)", "(ABC)"},
		{"(AB)(CD)", "(AB)"},
		{"(AB)(CD)", "(ABC)"}, // of both 24 cycles
		{"(AB)(CD)(EF)", "(ABCD)"},
		{"(ABCD)(EF)", "(ABC)(DEF)"}, // as many letters move, in as many cycles
		{"(ABCDEFGHIJKLMNOPQRSTUVWXYZ)", ""},
		{"(ABCDEFGHIJKLMNOPQRSTUVWXYZ)", "(ABCDEFGHIJKLM)(NOPQRSTUVWXYZ)"},
		{"(ABCDEFGHIJKLMNOPQRSTUVWXYZ)", "(ABCDEFGHIJKLMNOPQRSTUVWXY)"},
	} {
		p, q := must(t, c.p), must(t, c.q)
		got, err := Between(p, q)
		wantPerm(t, "Between of "+c.p+" and "+c.q, got, err, api.Perm{}, api.ErrNone)
		got, err = Between(q, p)
		wantPerm(t, "Between of "+c.q+" and "+c.p, got, err, api.Perm{}, api.ErrNone)
	}
}

// TestP3BetweenIsThereJustIfTypesAreAlike holds all kinds of types against each other.
func TestP3BetweenIsThereJustIfTypesAreAlike(t *testing.T) {
	orders := shuffled(len(types) + 1)
	for a, l := range types {
		for b, m := range types {
			p, q := ofType(l, orders[a]), ofType(m, orders[b+1])
			x, err := Between(p, q)
			if a != b {
				wantPerm(t, "Between of two types", x, err, api.Perm{}, api.ErrNone)
				continue
			}
			if err != api.OK {
				t.Fatalf("Between(%v, %v): %d", p, q, err)
			}
			got, err := Conjugate(p, x)
			wantPerm(t, "Conjugate by what is between", got, err, q, api.OK)
		}
	}
}

func TestP3BetweenIsTheFirstOfAllThatFit(t *testing.T) {
	many := append(slices.Clone(types), []int{3, 3, 3, 3, 2, 2, 2, 2, 2, 1, 1, 1, 1}, slices.Repeat([]int{2}, 13), ones(26))
	orders := shuffled(30)
	for n := range orders {
		for _, l := range many {
			p, q := ofType(l, orders[n]), ofType(l, orders[(n+1)%len(orders)])
			got, err := Between(p, q)
			wantPerm(t, "Between", got, err, first(p, q), api.OK)
		}
	}
}

func TestP3BetweenOneAndItselfNamedAnew(t *testing.T) {
	all := shuffled(60)
	for n, p := range all {
		q, _ := Conjugate(p, all[(n+1)%len(all)])
		got, err := Between(p, q)
		wantPerm(t, "Between", got, err, first(p, q), api.OK)
		got, err = Between(p, p)
		wantPerm(t, "Between one and itself", got, err, straight(), api.OK)
	}
}

// TestP3BetweenAmongAllOfThem writes out all that fit, for cycles so few that this can be done: where each cycle's first letter goes says the rest.
func TestP3BetweenAmongAllOfThem(t *testing.T) {
	orders := shuffled(3)
	for _, l := range types {
		p, q := ofType(l, orders[0]), ofType(l, orders[1])
		got, err := Between(p, q)
		if err != api.OK {
			t.Fatalf("Between(%v, %v): %d", p, q, err)
		}
		fits, at := 0, 0
		var starts []int
		for _, n := range l {
			starts = append(starts, orders[0][at])
			at += n
		}
		for x := range everyLaying(p, q, starts) {
			fits++
			if slices.Compare(x[:], got[:]) < 0 {
				t.Fatalf("Between(%v, %v) = %v; %v fits too, and is ahead of it", p, q, got, x)
			}
		}
		if fits == 0 {
			t.Errorf("%v: nothing fits", l)
		}
	}
}

func everyLaying(p, q api.Perm, starts []int) func(func(api.Perm) bool) {
	return func(tell func(api.Perm) bool) {
		choice := make([]int, len(starts))
		for {
			if x, ok := layAll(p, q, starts, choice); ok && !tell(x) {
				return
			}
			k := 0
			for k < len(choice) && choice[k] == api.Letters-1 {
				choice[k] = 0
				k++
			}
			if k == len(choice) {
				return
			}
			choice[k]++
		}
	}
}

func layAll(p, q api.Perm, starts, choice []int) (api.Perm, bool) {
	var x, taken api.Perm
	for i := range x {
		x[i], taken[i] = -1, -1
	}
	for k, i := range starts {
		if !follow(p, q, &x, &taken, i, choice[k]) {
			return x, false
		}
	}
	return x, true
}

// first tries for each letter in turn the least number that goes with those that stand already, and draws back where none does: by the promise's words, without a thought of cycles.
func first(p, q api.Perm) api.Perm {
	var x, taken api.Perm
	for i := range x {
		x[i], taken[i] = -1, -1
	}
	if !search(p, q, &x, &taken, 0) {
		return api.Perm{}
	}
	return x
}

func search(p, q api.Perm, x, taken *api.Perm, i int) bool {
	if i == api.Letters {
		return true
	}
	if x[i] >= 0 {
		return search(p, q, x, taken, i+1)
	}
	for j := range api.Letters {
		wasX, wasTaken := *x, *taken
		if follow(p, q, x, taken, i, j) && search(p, q, x, taken, i+1) {
			return true
		}
		*x, *taken = wasX, wasTaken
	}
	return false
}

// follow lays i on j, and all that must then be: where x takes i to j it takes p's i to q's j.
func follow(p, q api.Perm, x, taken *api.Perm, i, j int) bool {
	for x[i] != j {
		if x[i] >= 0 || taken[j] >= 0 {
			return false
		}
		x[i], taken[j] = j, i
		i, j = p[i], q[j]
	}
	return true
}
