package register

import (
	"math/rand"
	"slices"
	"testing"

	"blackroom/api"
)

func wantProfile(t *testing.T, bits, want []int, wantErr api.Errno) {
	t.Helper()
	got, err := Profile(bits)
	if err != wantErr || !slices.Equal(got, want) || err != api.OK && got != nil {
		t.Errorf("Profile(%d bits %d) = %d, %d; want %d, %d", len(bits), head(bits), got, err, want, wantErr)
	}
}

func wantShortest(t *testing.T, bits, want []int, wantErr api.Errno) {
	t.Helper()
	got, err := Shortest(bits)
	if err != wantErr || !slices.Equal(got, want) || err != api.OK && got != nil {
		t.Errorf("Shortest(%d bits %d) = %d taps %d, %d; want %d taps %d, %d", len(bits), head(bits), len(got), got, err, len(want), want, wantErr)
	}
}

// makes says if a register with these taps makes the bits, begun with the first of them.
func makes(taps, bits []int) bool {
	return len(taps) <= len(bits) && slices.Equal(madeOnPaper(taps, bits[:len(taps)], len(bits)), bits)
}

// counted are so many bits of a number, the highest one first: numbers that go up are lists in their order, 0 first.
func counted(number, long int) []int {
	out := make([]int, long)
	for i := range out {
		out[i] = number >> (long - 1 - i) & 1
	}
	return out
}

// tried is the first of the shortest taps: all are tried.
func tried(bits []int) []int {
	for long := range len(bits) + 1 {
		for number := range 1 << long {
			if taps := counted(number, long); makes(taps, bits) {
				return taps
			}
		}
	}
	return nil
}

// solved is the first taps, so many, of a register that makes the bits, or nil. Each bit that is made is an equation of the taps: it is solved for the last tap that it has, so that taps that no equation is solved for may be 0, and each other one follows from those ahead of it.
func solved(bits []int, long int) []int {
	rows := make([][]int, 0, len(bits))
	for at := long; at < len(bits); at++ {
		row := make([]int, long+1)
		for tap := range long {
			row[tap] = bits[at-1-tap]
		}
		row[long] = bits[at]
		rows = append(rows, row)
	}
	taps, done := make([]int, long), 0
	for tap := long - 1; tap >= 0; tap-- {
		for i := done; i < len(rows); i++ {
			if rows[i][tap] == 1 {
				rows[done], rows[i] = rows[i], rows[done]
				clearTap(rows, done, tap)
				done++
				break
			}
		}
	}
	for _, row := range rows[done:] {
		if row[long] == 1 {
			return nil
		}
	}
	for i := done - 1; i >= 0; i-- {
		last := long - 1
		for rows[i][last] == 0 {
			last--
		}
		taps[last] = rows[i][long]
	}
	return taps
}

// clearTap leaves the tap in no other row than the one that is solved for it.
func clearTap(rows [][]int, from, tap int) {
	for i, row := range rows {
		if i == from || row[tap] == 0 {
			continue
		}
		for j := range row {
			row[j] ^= rows[from][j]
		}
	}
}

func TestG2ByHand(t *testing.T) {
	for _, c := range []struct {
		bits    string
		profile []int
		taps    string
	}{
		{"", nil, ""},
		{"0", []int{0}, ""},
		{"1", []int{1}, "0"},
		{"00", []int{0, 0}, ""},
		{"01", []int{0, 2}, "00"},
		{"10", []int{1, 1}, "0"},
		{"11", []int{1, 1}, "1"},
		{"011", []int{0, 2, 2}, "10"},
		{"010", []int{0, 2, 2}, "00"},
		{"01101", []int{0, 2, 2, 2, 2}, "11"},
		{"0110", []int{0, 2, 2, 2}, "11"},
		{"110", []int{1, 1, 2}, "00"},
		{"101", []int{1, 1, 2}, "01"},
		{"0001", []int{0, 0, 0, 4}, "0000"},
		{"00010", []int{0, 0, 0, 4, 4}, "0000"},
		{"00011", []int{0, 0, 0, 4, 4}, "1000"},
		{"10000", []int{1, 1, 1, 1, 1}, "0"},
		{"10001", []int{1, 1, 1, 1, 4}, "0001"},
		{"001101110", []int{0, 0, 3, 3, 3, 3, 3, 5, 5}, "00101"},
		{"11010011101", []int{1, 1, 2, 2, 3, 3, 3, 3, 3, 3, 3}, "101"},
	} {
		bits := bitsOf(c.bits)
		wantProfile(t, bits, c.profile, api.OK)
		wantShortest(t, bits, bitsOf(c.taps), api.OK)
		if taps := tried(bits); !slices.Equal(taps, bitsOf(c.taps)) {
			t.Errorf("%s: tried out it is %d", c.bits, taps)
		}
	}
}

// All lists of some bits, and all taps for each of them.
func TestG2AllAreTried(t *testing.T) {
	const long = 11
	var shorter [][]int // by number: the profile of all bits but the last
	for n := range long + 1 {
		profiles := make([][]int, 1<<n)
		for number := range profiles {
			bits := counted(number, n)
			taps := tried(bits)
			wantShortest(t, bits, taps, api.OK)
			if n > 0 {
				profiles[number] = append(slices.Clone(shorter[number/2]), len(taps))
			}
			wantProfile(t, bits, profiles[number], api.OK)
			if again := solved(bits, len(taps)); !slices.Equal(again, taps) {
				t.Errorf("%d: solved it is %d, tried out %d", bits, again, taps)
			}
		}
		shorter = profiles
	}
}

// wantSolved holds both calls against equations: the first taps that solve them, and none that are fewer.
func wantSolved(t *testing.T, bits []int) {
	t.Helper()
	profile, err := Profile(bits)
	taps, errAgain := Shortest(bits)
	if err != api.OK || errAgain != api.OK || len(profile) != len(bits) || len(bits) > 0 && len(taps) != profile[len(bits)-1] {
		t.Fatalf("of %d bits Profile = %d, %d; Shortest = %d, %d", len(bits), profile, err, taps, errAgain)
	}
	if want := solved(bits, len(taps)); !slices.Equal(taps, want) || !makes(taps, bits) {
		t.Errorf("Shortest(%d bits %d) = %d; want %d", len(bits), head(bits), taps, want)
	}
	// If taps make bits then so they do with a 0 behind them: one less is all that is to be looked at.
	if len(taps) > 0 && solved(bits, len(taps)-1) != nil {
		t.Errorf("Shortest(%d bits %d) = %d taps, and fewer make them", len(bits), head(bits), len(taps))
	}
}

func TestG2AsSolved(t *testing.T) {
	r := rand.New(rand.NewSource(21))
	for range 1500 {
		wantSolved(t, someBits(r, r.Intn(48), 1+r.Intn(8)))
	}
	for range 40 {
		wantSolved(t, someBits(r, api.MaxBits-r.Intn(3), 2+r.Intn(60)))
	}
}

// A register that is made by another one: few of its bits tell it, and the last one may be changed.
func TestG2AsSolvedOfWhatIsMade(t *testing.T) {
	r := rand.New(rand.NewSource(22))
	for range 150 {
		long := r.Intn(60)
		bits := madeOnPaper(someBits(r, long, 1+r.Intn(3)), someBits(r, long, 2), long+r.Intn(100))
		wantSolved(t, bits)
		if len(bits) > 0 {
			at := len(bits) - 1 - r.Intn(min(len(bits), 10))
			wantSolved(t, set(bits, at, 1-bits[at]))
		}
	}
}

// Profile of many bits tells of fewer what Profile of fewer tells, and Shortest agrees with it.
func TestG2ProfileOfAllBeginnings(t *testing.T) {
	r := rand.New(rand.NewSource(23))
	for _, rare := range []int{1, 2, 5, 50, 1000} {
		bits := someBits(r, api.MaxBits, rare)
		all, err := Profile(bits)
		if err != api.OK || len(all) != len(bits) {
			t.Fatalf("Profile = %d, %d", all, err)
		}
		for n := range len(bits) + 1 {
			wantProfile(t, bits[:n], all[:n], api.OK)
			if n > 0 && n%16 < 2 {
				wantSolved(t, bits[:n])
			}
		}
	}
}

func TestG2LongestOnes(t *testing.T) {
	noughts := make([]int, api.MaxBits)
	wantProfile(t, noughts, noughts, api.OK)
	wantShortest(t, noughts, nil, api.OK)

	// One 1 at the end: no register but one as long as all bits begins with it.
	last := set(noughts, api.MaxBits-1, 1)
	wantProfile(t, last, set(noughts, api.MaxBits-1, api.MaxBits), api.OK)
	wantShortest(t, last, noughts, api.OK)

	first, ones := set(noughts, 0, 1), slices.Repeat([]int{1}, api.MaxBits)
	wantProfile(t, first, ones, api.OK)
	wantShortest(t, first, []int{0}, api.OK)
	wantProfile(t, ones, ones, api.OK)
	wantShortest(t, ones, []int{1}, api.OK)

	// All alike but the last one: of 255 taps the first one that is needed is the last.
	wantShortest(t, set(first, api.MaxBits-1, 1), set(noughts, api.MaxBits-2, 1)[:api.MaxBits-1], api.OK)
	profile := set(ones, api.MaxBits-1, api.MaxBits-1)
	wantProfile(t, set(first, api.MaxBits-1, 1), profile, api.OK)
	wantProfile(t, set(ones, api.MaxBits-1, 0), profile, api.OK)
	wantSolved(t, set(ones, api.MaxBits-1, 0))
}

// Twice as many bits as a register has taps tell all that it will make.
func TestG2WhatIsFoundGoesOn(t *testing.T) {
	r := rand.New(rand.NewSource(24))
	same := 0
	for range 200 {
		long := r.Intn(api.MaxBits/2 + 1)
		taps, start := someBits(r, long, 2), someBits(r, long, 2)
		made, err := Run(taps, start, 4*long)
		if err != api.OK {
			t.Fatalf("Run = %d", err)
		}
		found, err := Shortest(made[:2*long])
		if err != api.OK || len(found) > long {
			t.Fatalf("Shortest of what %d taps made = %d, %d", long, found, err)
		}
		wantRun(t, found, made[:len(found)], len(made), made, api.OK)
		if len(found) == long {
			same++
			wantShortest(t, made[:2*long], taps, api.OK)
		}
	}
	if same < 50 {
		t.Errorf("only %d registers were as short as can be", same)
	}
}

func TestG2TooManyBits(t *testing.T) {
	for _, n := range []int{api.MaxBits + 1, api.MaxBits + 2, 2 * api.MaxBits, api.MaxLong} {
		for _, bits := range [][]int{make([]int, n), slices.Repeat([]int{1}, n), slices.Repeat([]int{2}, n), set(make([]int, n), 0, -1), set(make([]int, n), n-1, 2)} {
			wantProfile(t, bits, nil, api.ErrMany)
			wantShortest(t, bits, nil, api.ErrMany)
		}
	}
}

func TestG2WhatIsNoBit(t *testing.T) {
	for _, long := range []int{1, 2, 5, api.MaxBits} {
		for at := range long {
			for _, wrong := range notBits() {
				for _, good := range [][]int{make([]int, long), slices.Repeat([]int{1}, long)} {
					wantProfile(t, set(good, at, wrong), nil, api.ErrRange)
					wantShortest(t, set(good, at, wrong), nil, api.ErrRange)
				}
			}
		}
	}
}

func TestE2BitsAreOnlyRead(t *testing.T) {
	for name, call := range map[string]func([]int) ([]int, api.Errno){"Profile": Profile, "Shortest": Shortest} {
		for _, l := range [][]int{nil, {1}, {0, 0, 1, 1, 0, 1, 1, 1, 0}, {0, 0, 0, 1}, {1, 1, 0, 1, 0, 0, 1, 1, 1, 0, 1}, {1, 2}} {
			answer, wantErr := call(l)
			want := slices.Clone(answer)
			bits := roomy(l)
			all := slices.Clone(bits[:cap(bits)])
			got, err := call(bits)
			if err != wantErr || !slices.Equal(bits[:cap(bits)], all) {
				t.Errorf("%s = %d; what was handed in became %d; it was %d", name, err, bits[:cap(bits)], all)
			}
			spoil(bits)
			if !slices.Equal(got, want) {
				t.Errorf("%s = %d with room behind; want %d", name, got, want)
			}
			spoil(got)
			if again, err := call(l); err != wantErr || !slices.Equal(again, want) {
				t.Errorf("%s = %d, %d once an answer is written over; want %d, %d", name, again, err, want, wantErr)
			}
		}
	}
}

func TestE3BitsOfNothing(t *testing.T) {
	for _, bits := range [][]int{nil, {}, make([]int, 0, 4)} {
		wantProfile(t, bits, nil, api.OK)
		wantShortest(t, bits, nil, api.OK)
	}
}
