package perm

import (
	"math"
	"math/rand"
	"testing"

	"blackroom/api"
)

// must reads what a test writes itself.
func must(t *testing.T, text string) api.Perm {
	t.Helper()
	p, f := Read(text)
	if f != (api.Fault{}) {
		t.Fatalf("Read(%q) = %v", text, f)
	}
	return p
}

// shuffled are permutations of all kinds, the same ones every time.
func shuffled(n int) []api.Perm {
	r := rand.New(rand.NewSource(2))
	out := make([]api.Perm, n)
	for i := range out {
		copy(out[i][:], r.Perm(api.Letters))
	}
	return out
}

func straight() api.Perm {
	var p api.Perm
	for i := range p {
		p[i] = i
	}
	return p
}

func with(at, to int) api.Perm {
	p := straight()
	p[at] = to
	return p
}

func wantPerm(t *testing.T, what string, got api.Perm, err api.Errno, want api.Perm, wantErr api.Errno) {
	t.Helper()
	if got != want || err != wantErr {
		t.Errorf("%s = %v, %d; want %v, %d", what, got, err, want, wantErr)
	}
}

var outside = []int{-1, api.Letters, api.Letters + 1, -api.Letters, math.MinInt, math.MaxInt}

func TestP1Same(t *testing.T) {
	if got := Same(); got != straight() {
		t.Errorf("Same() = %v", got)
	}
}

func TestP1RightOnes(t *testing.T) {
	all := append(shuffled(50), straight())
	for turn := range api.Letters {
		var p, q api.Perm
		for i := range p {
			p[i] = (i + turn) % api.Letters
			q[i] = (turn + api.Letters - i) % api.Letters
		}
		all = append(all, p, q)
	}
	for _, p := range all {
		if err := Wrong(p); err != api.OK {
			t.Errorf("Wrong(%v) = %d", p, err)
		}
	}
}

func TestP1NumbersOutside(t *testing.T) {
	for at := range api.Letters {
		for _, to := range outside {
			if err := Wrong(with(at, to)); err != api.ErrRange {
				t.Errorf("letter %d goes to %d: Wrong = %d; want ErrRange", at, to, err)
			}
		}
	}
}

func TestP1TwoThatGoToOne(t *testing.T) {
	for at := range api.Letters {
		for to := range api.Letters {
			want := api.ErrFit
			if at == to {
				want = api.OK
			}
			if err := Wrong(with(at, to)); err != want {
				t.Errorf("letter %d goes to %d: Wrong = %d; want %d", at, to, err, want)
			}
		}
	}
	if err := Wrong(api.Perm{}); err != api.ErrFit {
		t.Errorf("all letters go to A: Wrong = %d; want ErrFit", err)
	}
}

// TestP1TheFirstLetterThatIsWrong has both faults in one permutation: the letters are gone over from the first one on.
func TestP1TheFirstLetterThatIsWrong(t *testing.T) {
	for early := 1; early < api.Letters; early++ {
		for late := early + 1; late < api.Letters; late++ {
			for _, to := range outside {
				p := with(early, early-1)
				p[late] = to
				if err := Wrong(p); err != api.ErrFit {
					t.Errorf("%v: Wrong = %d; want ErrFit", p, err)
				}
				p = with(early, to)
				p[late] = late - 1
				if late == early+1 {
					p[late] = 0
				}
				if err := Wrong(p); err != api.ErrRange {
					t.Errorf("%v: Wrong = %d; want ErrRange", p, err)
				}
			}
		}
	}
}

func TestP1CallsOfOneTellWhatIsWrong(t *testing.T) {
	for _, c := range []struct {
		p   api.Perm
		err api.Errno
	}{
		{with(3, api.Letters), api.ErrRange},
		{with(25, -1), api.ErrRange},
		{with(0, math.MinInt), api.ErrRange},
		{with(12, math.MaxInt), api.ErrRange},
		{with(3, 4), api.ErrFit},
		{with(25, 0), api.ErrFit},
		{api.Perm{}, api.ErrFit},
	} {
		got, err := Back(c.p)
		wantPerm(t, "Back of a wrong one", got, err, api.Perm{}, c.err)
		if l, err := Type(c.p); len(l) != 0 || err != c.err {
			t.Errorf("Type(%v) = %v, %d; want %d", c.p, l, err, c.err)
		}
		if s, err := Print(c.p); s != "" || err != c.err {
			t.Errorf("Print(%v) = %q, %d; want %d", c.p, s, err, c.err)
		}
	}
}

func TestP1CallsOfTwoTellWhatIsWrongWithTheFirst(t *testing.T) {
	right, other := must(t, "(ABC)"), must(t, "(AB)")
	far, twice := with(7, api.Letters), with(7, 8)
	for _, c := range []struct {
		p, q api.Perm
		err  api.Errno
	}{
		{far, right, api.ErrRange},
		{right, far, api.ErrRange},
		{twice, right, api.ErrFit},
		{right, twice, api.ErrFit},
		{far, twice, api.ErrRange},
		{twice, far, api.ErrFit},
		{far, far, api.ErrRange},
		{twice, twice, api.ErrFit},
		{other, with(0, -1), api.ErrRange},
		{with(0, -1), other, api.ErrRange},
		{other, api.Perm{}, api.ErrFit},
		{api.Perm{}, other, api.ErrFit},
	} {
		got, err := Then(c.p, c.q)
		wantPerm(t, "Then", got, err, api.Perm{}, c.err)
		got, err = Conjugate(c.p, c.q)
		wantPerm(t, "Conjugate", got, err, api.Perm{}, c.err)
		got, err = Between(c.p, c.q)
		wantPerm(t, "Between", got, err, api.Perm{}, c.err)
	}
}

func TestP2Written(t *testing.T) {
	for _, c := range []struct{ p, q, then, back, conjugate string }{
		{"", "", "", "", ""},
		{"(ABC)", "", "(ABC)", "(ACB)", "(ABC)"},
		{"", "(ABC)", "(ABC)", "", ""},
		{"(AB)", "(BC)", "(ACB)", "(AB)", "(AC)"},
		{"(BC)", "(AB)", "(ABC)", "(BC)", "(AC)"},
		{"(ABC)", "(CD)", "(ABDC)", "(ACB)", "(ABD)"},
		{"(ABC)(DE)", "(AZ)(BY)", "(AYBCZ)(DE)", "(ACB)(DE)", "(CZY)(DE)"},
		{"(ABCDEFGHIJKLMNOPQRSTUVWXYZ)", "(AZYXWVUTSRQPONMLKJIHGFEDCB)", "", "(AZYXWVUTSRQPONMLKJIHGFEDCB)", "(ABCDEFGHIJKLMNOPQRSTUVWXYZ)"},
	} {
		p, q := must(t, c.p), must(t, c.q)
		got, err := Then(p, q)
		wantPerm(t, "Then of "+c.p+" and "+c.q, got, err, must(t, c.then), api.OK)
		got, err = Back(p)
		wantPerm(t, "Back of "+c.p, got, err, must(t, c.back), api.OK)
		got, err = Conjugate(p, q)
		wantPerm(t, "Conjugate of "+c.p+" and "+c.q, got, err, must(t, c.conjugate), api.OK)
	}
}

func TestP2LetterByLetter(t *testing.T) {
	all := shuffled(40)
	for n, p := range all {
		q := all[(n+1)%len(all)]
		then, err1 := Then(p, q)
		back, err2 := Back(p)
		named, err3 := Conjugate(p, q)
		if err1 != api.OK || err2 != api.OK || err3 != api.OK {
			t.Fatalf("%v and %v: %d %d %d", p, q, err1, err2, err3)
		}
		for i := range api.Letters {
			if then[i] != q[p[i]] {
				t.Errorf("Then(%v, %v) takes %d to %d", p, q, i, then[i])
			}
			if back[p[i]] != i {
				t.Errorf("Back(%v) takes %d to %d", p, p[i], back[p[i]])
			}
			if named[q[i]] != q[p[i]] {
				t.Errorf("Conjugate(%v, %v) takes %d to %d", p, q, q[i], named[q[i]])
			}
		}
	}
}

func TestP2WhatIsDoneIsUndone(t *testing.T) {
	for _, p := range shuffled(40) {
		back, _ := Back(p)
		got, err := Then(p, back)
		wantPerm(t, "there and back", got, err, straight(), api.OK)
		got, err = Then(back, p)
		wantPerm(t, "back and there", got, err, straight(), api.OK)
	}
}
