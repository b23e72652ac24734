package chart

import (
	"math/rand"
	"slices"
	"strings"
	"testing"
	"unsafe"

	"blackroom/api"
	"blackroom/perm"
	"blackroom/rotor"
)

func wantDouble(t *testing.T, m api.Machine, key, want string, wantFault api.Fault) {
	t.Helper()
	if got, f := Double(m, key); got != want || f != wantFault {
		t.Errorf("Double of %.20q, of %d bytes, = %q, %v; want %q, %v", key, len(key), got, f, want, wantFault)
	}
}

func TestC2Double(t *testing.T) {
	wantDouble(t, threeWheels(t), "AAA", "BDZGOW", api.Fault{})
	r := rand.New(rand.NewSource(94))
	for range 200 {
		m := someMachine(r, 1+r.Intn(api.MaxWheels))
		var key, want []byte
		for _, n := range someList(r, 3) {
			key = append(key, alphabet[n])
		}
		keys := becomeAtKeys(t, m)
		for k := range keys {
			want = append(want, alphabet[keys[k][strings.IndexByte(alphabet, key[k%3])]])
		}
		wantDouble(t, m, string(key), string(want), api.Fault{})
	}
}

// The machine that wrote it undoes it: the key stands there twice.
func TestC2DoubleIsUndone(t *testing.T) {
	m := machine(t, "IV III II I", "BCDE", "IVEQ", "C", "(QW)(ER)")
	for _, key := range []string{"AAA", "ABC", "XYZ", "ZZZ", "QEV"} {
		told, f := Double(m, key)
		if got, _ := rotor.Write(m, told); got != key+key || f != (api.Fault{}) {
			t.Errorf("Double(%s) = %s, %v: undone it is %s", key, told, f, got)
		}
	}
}

func TestC2DoubleWrongKeys(t *testing.T) {
	for _, c := range []struct {
		key  string
		want api.Fault
	}{
		{"", fault(api.ErrMany, 0)},
		{"A", fault(api.ErrMany, 0)},
		{"AB", fault(api.ErrMany, 0)},
		{"ABCD", fault(api.ErrMany, 0)},
		{"ABCABC", fault(api.ErrMany, 0)},
		{strings.Repeat("A", api.MaxText), fault(api.ErrMany, 0)},
		{"aBC", fault(api.ErrForm, 0)},
		{"A C", fault(api.ErrForm, 1)},
		{"ABc", fault(api.ErrForm, 2)},
		{"AÄ", fault(api.ErrForm, 1)},
		{"AB[", fault(api.ErrForm, 2)},
		{"@BC", fault(api.ErrForm, 0)},
		{"\xff\xff\xff", fault(api.ErrForm, 0)},
		// What Check says is told ahead of how many letters there are.
		{"a", fault(api.ErrForm, 0)},
		{"ABCDEf", fault(api.ErrForm, 5)},
		{strings.Repeat("A", api.MaxText-1) + "1", fault(api.ErrForm, api.MaxText-1)},
		{strings.Repeat("A", api.MaxText+1), fault(api.ErrMuch, 0)},
		{strings.Repeat("a", api.MaxText+1), fault(api.ErrMuch, 0)},
	} {
		wantDouble(t, threeWheels(t), c.key, "", c.want)
		wantDouble(t, machine(t, "IV III II I", "ABCD", "ABCD", "C", "(AB)"), c.key, "", c.want)
	}
}

// What is wrong with the machine is told ahead of what is wrong with the key, and at 0.
func TestC2DoubleWrongMachines(t *testing.T) {
	eachFlaw(t, func(what string, m api.Machine, want api.Errno) {
		for _, key := range []string{"ABC", "", "AB", "ABc", strings.Repeat("A", api.MaxText+1)} {
			wantDouble(t, m, key, "", fault(want, 0))
		}
	})
}

func wantSignals(t *testing.T, what string, l []string, want [3]api.Perm, wantErr api.Errno) {
	t.Helper()
	if got, err := Signals(l); got != want || err != wantErr {
		t.Errorf("Signals of %s = %v, %v; want %v, %v", what, got, err, want, wantErr)
	}
}

func wantNoSignals(t *testing.T, what string, l []string, want api.Errno) {
	t.Helper()
	wantSignals(t, what, l, [3]api.Perm{}, want)
}

// day is what is sent on one day: so many messages as there are letters, each letter once at each place of their keys.
func day(t *testing.T, m api.Machine, r *rand.Rand) []string {
	t.Helper()
	a, b, c := r.Perm(api.Letters), r.Perm(api.Letters), r.Perm(api.Letters)
	var out []string
	for i := range a {
		s, f := Double(m, string([]byte{alphabet[a[i]], alphabet[b[i]], alphabet[c[i]]}))
		if f.Err != api.OK {
			t.Fatalf("Double = %v", f)
		}
		out = append(out, s)
	}
	return out
}

// What a day's messages tell is the machine's chart, in whatever order they come, and however often.
func TestC2SignalsTellTheChart(t *testing.T) {
	r := rand.New(rand.NewSource(95))
	for range 50 {
		m := someMachine(r, 1+r.Intn(api.MaxWheels))
		l, want := day(t, m, r), chartOnPaper(t, m)
		wantSignals(t, "a day", l, want, api.OK)
		l = append(l, day(t, m, r)...)
		r.Shuffle(len(l), func(i, k int) { l[i], l[k] = l[k], l[i] })
		wantSignals(t, "a busy day", l, want, api.OK)
		for i := range l {
			l[i] += "QUICKBROWN"[:r.Intn(10)]
		}
		wantSignals(t, "messages that go on behind their keys", l, want, api.OK)
	}
}

// The messages of one day that Rejewski wrote down, each once, and the cycles that he found in them.
func TestC2SignalsOfOld(t *testing.T) {
	const sent = `AUQAMN BNHCHL BCTCGJ CIKBZT DDBVDV EJPIPS FBRKLE GPBZSV HNOTHD HXVTTI IKGJKF INDJHU JWFMIC KHBXJV
		LDRHDE MAWUXP NXDQTU NLUQFZ OBUDLZ PVJFEG QGALYB RJLWPX RFCWQQ SYXSCW SJMSPO SUGSMF TMNEBY TAAEXB
		USENWH VIIPZK VQZPVR WTMRAO WKIRKK XRSGNM XOIGUK XYWGCP YPCOSQ ZZYYRA ZEFYOC ZSJYWG`
	want := [3]api.Perm{
		written(t, "(A)(S)(BC)(RW)(DVPFKXGZYO)(EIJMUNQLHT)"),
		written(t, "(D)(K)(AXT)(CGY)(BLFQVEOUM)(HJPSWIZRN)"),
		written(t, "(ABVIKTJGFCQNY)(DUZREHLXWPSMO)"),
	}
	wantSignals(t, "a day of old", strings.Fields(sent), want, api.OK)
}

// laid are messages whose letters go where these permutations take them.
func laid(p [3]api.Perm) []string {
	var out []string
	for c := range api.Letters {
		s := []byte{alphabet[c], alphabet[c], alphabet[c]}
		for i := range p {
			s = append(s, alphabet[p[i][c]])
		}
		out = append(out, string(s))
	}
	return out
}

// Any three permutations may be told, those too that no machine has.
func TestC2SignalsOfAnyPermutations(t *testing.T) {
	same := perm.Same()
	wantSignals(t, "letters that go to themselves", laid([3]api.Perm{same, same, same}), [3]api.Perm{same, same, same}, api.OK)
	r := rand.New(rand.NewSource(96))
	for range 100 {
		p := [3]api.Perm{api.Perm(r.Perm(26)), api.Perm(r.Perm(26)), api.Perm(r.Perm(26))}
		wantSignals(t, "any", laid(p), p, api.OK)
	}
}

func TestC2SignalsThatAreMissing(t *testing.T) {
	wantNoSignals(t, "nil", nil, api.ErrNone)
	wantNoSignals(t, "none", []string{}, api.ErrNone)
	wantNoSignals(t, "one", []string{"ABCDEF"}, api.ErrNone)
	same := perm.Same()
	all := laid([3]api.Perm{same, same, same})
	for i := range all {
		wantNoSignals(t, "all but one", slices.Delete(slices.Clone(all), i, i+1), api.ErrNone)
		// A letter is missing at one of the three places alone: another message's letters stand there.
		for place := range 3 {
			l := slices.Clone(all)
			other := alphabet[(i+1)%26]
			s := []byte(l[i])
			s[place], s[place+3] = other, other
			l[i] = string(s)
			wantNoSignals(t, "a letter that is missing at one place", l, api.ErrNone)
		}
	}
}

// changed has another letter at one place of one message.
func changed(l []string, at, place int, to byte) []string {
	out := slices.Clone(l)
	s := []byte(out[at])
	s[place] = to
	out[at] = string(s)
	return out
}

func TestC2SignalsThatDoNotFit(t *testing.T) {
	r := rand.New(rand.NewSource(97))
	m := threeWheels(t)
	all := day(t, m, r)
	for place := range 3 {
		// The same first letters, and other second ones; other first ones, and the same second ones.
		for _, k := range []int{place, place + 3} {
			for _, at := range []int{0, 1, 25} {
				to := all[(at+1)%26][k]
				wantNoSignals(t, "a letter changed", changed(all, at, k, to), api.ErrFit)
				wantNoSignals(t, "a letter changed, in a message more", append(changed(all[at:at+1], 0, k, to), all...), api.ErrFit)
				wantNoSignals(t, "a letter changed, in a message more behind the others", append(slices.Clone(all), changed(all, at, k, to)[at]), api.ErrFit)
			}
		}
	}
	wantNoSignals(t, "two with the same first letters alone", []string{"ABCDEF", "AXYXYZ"}, api.ErrFit)
	wantNoSignals(t, "two with the same second letters alone", []string{"ABCDEF", "XYZDXY"}, api.ErrFit)
	// It is the same message's letters that are held against each other: one may be another's the other way round.
	wantNoSignals(t, "there and back", []string{"ABCDEF", "DEFABC"}, api.ErrNone)
}

// Place by place: ErrFit of one, then ErrNone of it, and then the next one.
func TestC2SignalsPlaceByPlace(t *testing.T) {
	wantNoSignals(t, "missing at the first, not fitting at the second", []string{"ABCDEF", "BBCAXF"}, api.ErrNone)
	wantNoSignals(t, "not fitting at the first ahead of missing there", []string{"ABCDEF", "ABCXEF"}, api.ErrFit)
	wantNoSignals(t, "not fitting behind what is missing", []string{"ABCDEF", "CBCAEF", "CBCBEF"}, api.ErrFit)
	same := perm.Same()
	all := laid([3]api.Perm{same, same, same})
	// The first place is whole; the second one lacks Z; the third one does not fit.
	l := changed(changed(all, 25, 1, 'A'), 25, 4, 'A')
	wantNoSignals(t, "missing at the second, not fitting at the third", changed(l, 25, 5, 'A'), api.ErrNone)
	// The second one does not fit; the third one lacks Z.
	l = changed(changed(all, 25, 2, 'A'), 25, 5, 'A')
	wantNoSignals(t, "not fitting at the second, missing at the third", changed(l, 25, 4, 'A'), api.ErrFit)
	wantNoSignals(t, "missing at the third", l, api.ErrNone)
}

func TestC2SignalsThatAreWrong(t *testing.T) {
	same := perm.Same()
	all := laid([3]api.Perm{same, same, same})
	long := strings.Repeat("A", api.MaxText)
	for _, c := range []struct {
		s    string
		want api.Errno
	}{
		{"", api.ErrMany},
		{"A", api.ErrMany},
		{"AAAAA", api.ErrMany},
		{"AAAaA", api.ErrForm}, // Check is asked ahead of how many there are
		{"a", api.ErrForm},
		{"AAAAAa", api.ErrForm},
		{"AAAAAA ", api.ErrForm}, // behind the key too
		{"AAÄAA", api.ErrForm},
		{"AAAAA[", api.ErrForm},
		{"@AAAAA", api.ErrForm},
		{long + "A", api.ErrMuch},
		{long + "a", api.ErrMuch},
		{long[1:] + "a", api.ErrForm},
	} {
		for _, at := range []int{0, 7, 26} {
			wantNoSignals(t, c.s[:min(len(c.s), 8)], slices.Insert(slices.Clone(all), at, c.s), c.want)
		}
		// It is told ahead of what does not fit, and of what is missing.
		wantNoSignals(t, "one alone", []string{c.s}, c.want)
		wantNoSignals(t, "one behind two that do not fit", []string{"ABCDEF", "ABCXYZ", c.s}, c.want)
	}
	wantSignals(t, "the longest message", append(slices.Clone(all), long), [3]api.Perm{same, same, same}, api.OK)
	wantNoSignals(t, "too short, then no letters", []string{"AAAAA", "aaaaaa"}, api.ErrMany)
	wantNoSignals(t, "no letters, then too short", []string{"aaaaaa", "AAAAA"}, api.ErrForm)
	wantNoSignals(t, "too short, then too long", []string{"AAAAA", long + "A"}, api.ErrMany)
	wantNoSignals(t, "too long, then too short", []string{long + "A", "AAAAA"}, api.ErrMuch)
}

func TestE2SignalsOnlyReads(t *testing.T) {
	same := perm.Same()
	all := laid([3]api.Perm{same, same, same})
	// What is wrong stands in the spare room: nobody looks at it.
	room := append(slices.Clone(all), "AAA", "a", "AAABBB")
	before := slices.Clone(room)
	wantSignals(t, "a list with spare room", room[:26], [3]api.Perm{same, same, same}, api.OK)
	if !slices.Equal(room, before) {
		t.Error("what was handed in has been changed")
	}
	key := []byte("AAA")
	told, _ := Double(threeWheels(t), unsafe.String(&key[0], len(key)))
	copy(key, "QQQ")
	if told != "BDZGOW" {
		t.Errorf("%q comes, not BDZGOW: what was handed in has been kept", told)
	}
}
