package office

import (
	"math"
	"math/rand"
	"slices"
	"testing"

	"blackroom/api"
	"blackroom/pad"
)

// disk is one whose power may go: left: so many words can be put yet (below 0: any number). It notes what was put.
type disk struct {
	words []int64
	left  int
	put   [][2]int64
	bad   bool // a word was asked for, or put, that an office has nothing to do with
}

func (d *disk) Size() int { return len(d.words) }

func (d *disk) Get(i int) int64 {
	if i != 0 && i != 1 {
		d.bad = true
		return 0
	}
	return d.words[i]
}

func (d *disk) Put(i int, w int64) bool {
	if i != 0 && i != 1 {
		d.bad = true
		return false
	}
	if d.left == 0 {
		return false
	}
	d.left--
	d.words[i] = w
	d.put = append(d.put, [2]int64{int64(i), w})
	return true
}

func diskOf(words ...int64) *disk { return &disk{words: words, left: -1} }

// upToEight is a pad of the signs from 1 to 8.
func upToEight() []int { return []int{1, 2, 3, 4, 5, 6, 7, 8} }

// opened is an office that must be opened.
func opened(t *testing.T, n int, signs []int, d *disk) *Office {
	t.Helper()
	put := len(d.put)
	o, err := Open(n, signs, d)
	if o == nil || err != api.OK {
		t.Fatalf("Open(%d, %d signs, %d) = %v, %d", n, len(signs), d.words, o, err)
	}
	if len(d.put) != put {
		t.Errorf("Open has put %d", d.put[put:])
	}
	return o
}

func wantNone(t *testing.T, n int, signs []int, d api.Disk, want api.Errno) {
	t.Helper()
	if o, err := Open(n, signs, d); o != nil || err != want {
		t.Errorf("Open(%d, %d signs, a disk) = %v, %d; want nil, %d", n, len(signs), o, err, want)
	}
}

// head is as much of a long list as is worth telling.
func head(l []int) []int { return l[:min(len(l), 40)] }

func wantSend(t *testing.T, o *Office, text []int, wantAt int, want []int, wantErr api.Errno) {
	t.Helper()
	at, message, err := o.Send(text)
	if at != wantAt || !slices.Equal(message, want) || err != wantErr || err != api.OK && message != nil {
		t.Errorf("Send(%d signs %d) = %d, %d, %d; want %d, %d, %d", len(text), head(text), at, head(message), err, wantAt, head(want), wantErr)
	}
}

func wantTake(t *testing.T, o *Office, at int, message, want []int, wantErr api.Errno) {
	t.Helper()
	text, err := o.Take(at, message)
	if !slices.Equal(text, want) || err != wantErr || err != api.OK && text != nil {
		t.Errorf("Take(%d, %d signs %d) = %d, %d; want %d, %d", at, len(message), head(message), head(text), err, head(want), wantErr)
	}
}

// wantWords holds the disk and what is left against what must be there.
func wantWords(t *testing.T, o *Office, d *disk, wantLeft int, want ...int64) {
	t.Helper()
	if left := o.Left(); left != wantLeft || !slices.Equal(d.words, want) || d.bad {
		t.Errorf("%d are left, and the disk has %d (a wrong word was asked for: %t); want %d, and %d", left, d.words, d.bad, wantLeft, want)
	}
}

func someSigns(r *rand.Rand, n, long int) []int {
	out := make([]int, long)
	for i := range out {
		out[i] = r.Intn(n)
	}
	return out
}

// set is l with another number at one place.
func set(l []int, at, v int) []int {
	out := slices.Clone(l)
	out[at] = v
	return out
}

// notKinds are numbers of signs that there cannot be.
func notKinds() []int {
	return []int{0, 1, -1, -2, -10, 65, 66, 256, 1 << 32, 1<<32 + 10, math.MaxInt, math.MinInt}
}

// notSigns are numbers that are no signs below n.
func notSigns(n int) []int {
	return []int{-1, -2, -n, n, n + 1, 2 * n, 1 << 32, 1<<32 + 1, -1 << 32, math.MaxInt, math.MinInt}
}

// notWords are numbers that a word of an office with so many signs cannot be.
func notWords(many int) []int64 {
	m := int64(many)
	return []int64{-1, -2, -m - 1, m + 1, m + 2, 1 << 32, 1<<32 + 1, -1 << 32, 1<<32 - 1, math.MaxInt64, math.MinInt64, math.MinInt64 + 1}
}

func TestO1NoSuchKind(t *testing.T) {
	for _, n := range notKinds() {
		for _, signs := range [][]int{nil, {0}, {-1, 99}, make([]int, api.MaxPad+1)} {
			for _, d := range []api.Disk{diskOf(0, 0), diskOf(), nil} {
				wantNone(t, n, signs, d, api.ErrKind)
			}
		}
	}
}

func TestO1NoSigns(t *testing.T) {
	for _, n := range []int{2, 3, 10, 64} {
		for _, wrong := range notSigns(n) {
			for _, long := range []int{1, 2, 9, api.MaxPad, api.MaxPad + 1} {
				for _, at := range []int{0, long / 2, long - 1} {
					signs := set(make([]int, long), at, wrong)
					wantNone(t, n, signs, diskOf(0, 0), api.ErrRange)
					wantNone(t, n, signs, diskOf(0), api.ErrRange)
				}
			}
		}
	}
}

func TestO1HowManySigns(t *testing.T) {
	for _, long := range []int{0, 1, 2, 1000, api.MaxPad - 1, api.MaxPad} {
		d := diskOf(0, 0)
		wantWords(t, opened(t, 2, make([]int, long), d), d, long, 0, 0)
		wantNone(t, 2, make([]int, long), diskOf(0), api.ErrMuch)
	}
	for _, long := range []int{api.MaxPad + 1, api.MaxPad + 2, 2 * api.MaxPad} {
		wantNone(t, 2, make([]int, long), diskOf(0, 0), api.ErrMany)
		wantNone(t, 2, make([]int, long), diskOf(0), api.ErrMany)
	}
}

func TestO1DisksWithFewWords(t *testing.T) {
	for _, signs := range [][]int{nil, {1}, upToEight()} {
		wantNone(t, 10, signs, diskOf(), api.ErrMuch)
		wantNone(t, 10, signs, diskOf(0), api.ErrMuch)
		wantNone(t, 10, signs, nil, api.ErrMuch)
	}
}

// Words behind the first two are not the office's.
func TestO1DisksWithManyWords(t *testing.T) {
	d := diskOf(3, 5, 77, -1)
	o := opened(t, 10, upToEight(), d)
	wantSend(t, o, []int{9, 9}, 3, []int{3, 4}, api.OK)
	wantTake(t, o, 6, []int{7}, []int{0}, api.OK)
	wantWords(t, o, d, 3, 5, 7, 77, -1)
}

func TestO1Left(t *testing.T) {
	for used := range 9 {
		d := diskOf(int64(used), 4)
		wantWords(t, opened(t, 10, upToEight(), d), d, 8-used, int64(used), 4)
	}
	for _, word := range notWords(8) {
		d := diskOf(word, 4)
		wantWords(t, opened(t, 10, upToEight(), d), d, 0, word, 4)
	}
	for _, word := range notWords(0) {
		d := diskOf(word, word)
		wantWords(t, opened(t, 10, nil, d), d, 0, word, word)
	}
}

// What was used to take says nothing of what is left to send.
func TestO1LeftIsToSend(t *testing.T) {
	for _, word := range append(notWords(8), 0, 1, 7, 8) {
		d := diskOf(2, word)
		wantWords(t, opened(t, 10, upToEight(), d), d, 6, 2, word)
	}
}

// Open and Left put nothing: so they need no power.
func TestO1NothingIsPut(t *testing.T) {
	for _, power := range []int{-1, 0} {
		for _, word := range append(notWords(8), 0, 5, 8) {
			d := diskOf(word, word)
			d.left = power
			o := opened(t, 10, upToEight(), d)
			wantWords(t, o, d, o.Left(), word, word)
			if len(d.put) > 0 {
				t.Errorf("%d was put on a disk with %d in both words", d.put, word)
			}
		}
	}
	d := diskOf(0, 0)
	d.left = 0
	wantSend(t, opened(t, 10, upToEight(), d), []int{1}, 0, nil, api.ErrPower)
}

func TestO2ByHand(t *testing.T) {
	d := diskOf(0, 0)
	o := opened(t, 10, []int{7, 5, 9, 0}, d)
	wantSend(t, o, []int{5, 5}, 0, []int{2, 0}, api.OK)
	wantWords(t, o, d, 2, 2, 0)
	wantSend(t, o, []int{3}, 2, []int{2}, api.OK)
	wantWords(t, o, d, 1, 3, 0)
	wantSend(t, o, []int{3, 3}, 0, nil, api.ErrSpent)
	wantWords(t, o, d, 1, 3, 0)
	wantSend(t, o, []int{3}, 3, []int{3}, api.OK)
	wantWords(t, o, d, 0, 4, 0)
	wantSend(t, o, []int{3}, 0, nil, api.ErrSpent)
	wantTake(t, o, 0, []int{2, 0}, []int{5, 5}, api.OK)
	wantWords(t, o, d, 0, 4, 2)
	wantTake(t, o, 3, []int{3}, []int{3}, api.OK)
	wantWords(t, o, d, 0, 4, 4)
	wantTake(t, o, 2, []int{2}, nil, api.ErrSpent)
	wantWords(t, o, d, 0, 4, 4)
}

// A text without signs is sent and taken too, and put on the disk.
func TestO2TextsWithoutSigns(t *testing.T) {
	for _, none := range [][]int{nil, {}, make([]int, 0, 5)} {
		d := diskOf(3, 2)
		o := opened(t, 10, upToEight(), d)
		wantSend(t, o, none, 3, nil, api.OK)
		wantTake(t, o, 2, none, nil, api.OK)
		wantTake(t, o, 6, none, nil, api.OK)
		wantTake(t, o, 5, none, nil, api.ErrSpent)
		wantTake(t, o, 8, none, nil, api.OK)
		wantWords(t, o, d, 5, 3, 8)
		if want := [][2]int64{{0, 3}, {1, 2}, {1, 6}, {1, 8}}; !slices.Equal(d.put, want) {
			t.Errorf("%d was put; want %d", d.put, want)
		}
		d = diskOf(0, 0)
		o = opened(t, 10, none, d)
		wantSend(t, o, none, 0, nil, api.OK)
		wantTake(t, o, 0, none, nil, api.OK)
		wantSend(t, o, []int{0}, 0, nil, api.ErrSpent)
		wantTake(t, o, 0, []int{0}, nil, api.ErrSpent)
		wantTake(t, o, 1, none, nil, api.ErrRange)
		wantWords(t, o, d, 0, 0, 0)
	}
}

// A word that cannot be right is all signs: what comes of it stands on the disk when something is put there.
func TestO2WordsThatCannotBe(t *testing.T) {
	for _, word := range notWords(8) {
		d := diskOf(word, word)
		o := opened(t, 10, upToEight(), d)
		wantSend(t, o, []int{1}, 0, nil, api.ErrSpent)
		wantTake(t, o, 7, []int{1}, nil, api.ErrSpent)
		wantTake(t, o, 8, []int{1}, nil, api.ErrSpent)
		wantTake(t, o, 0, nil, nil, api.ErrSpent)
		wantWords(t, o, d, 0, word, word)
		wantSend(t, o, nil, 8, nil, api.OK)
		wantWords(t, o, d, 0, 8, word)
		wantTake(t, o, 8, nil, nil, api.OK)
		wantWords(t, o, d, 0, 8, 8)
	}
}

// From each word on texts of each length, until the pad has no more.
func TestO2EachWordAndLength(t *testing.T) {
	signs, text := upToEight(), []int{9, 0, 4, 4, 8, 1, 2, 3, 7, 6}
	for used := range 9 {
		for long := range len(text) {
			d := diskOf(int64(used), int64(used))
			o := opened(t, 10, signs, d)
			if used+long > 8 {
				wantSend(t, o, text[:long], 0, nil, api.ErrSpent)
				wantTake(t, o, used, text[:long], nil, api.ErrSpent)
				wantWords(t, o, d, 8-used, int64(used), int64(used))
				continue
			}
			message, _ := pad.Write(10, text[:long], signs[used:])
			wantSend(t, o, text[:long], used, message, api.OK)
			wantWords(t, o, d, 8-used-long, int64(used+long), int64(used))
			wantTake(t, o, used, message, text[:long], api.OK)
			wantWords(t, o, d, 8-used-long, int64(used+long), int64(used+long))
		}
	}
}

func TestO2WrongTexts(t *testing.T) {
	for _, n := range []int{2, 10, 64} {
		signs := slices.Repeat([]int{1, 0}, api.MaxPad/2)
		d := diskOf(6, 2)
		o := opened(t, n, signs, d)
		for _, wrong := range notSigns(n) {
			for _, long := range []int{1, 7, api.MaxText, api.MaxText + 1} {
				for _, at := range []int{0, long - 1} {
					text := set(make([]int, long), at, wrong)
					wantSend(t, o, text, 0, nil, api.ErrRange)
					wantTake(t, o, 2, text, nil, api.ErrRange)
				}
			}
		}
		wantSend(t, o, make([]int, api.MaxText+1), 0, nil, api.ErrMany)
		wantTake(t, o, 2, make([]int, api.MaxText+1), nil, api.ErrMany)
		wantSend(t, o, make([]int, api.MaxText), 0, nil, api.ErrSpent)
		wantTake(t, o, 2, make([]int, api.MaxText), nil, api.ErrSpent)
		wantWords(t, o, d, api.MaxPad-6, 6, 2)
		if len(d.put) > 0 {
			t.Errorf("%d was put", d.put)
		}
	}
}

func TestO2LongestTexts(t *testing.T) {
	r := rand.New(rand.NewSource(161))
	signs, text := someSigns(r, 64, api.MaxPad), someSigns(r, 64, api.MaxText)
	d := diskOf(0, 0)
	o := opened(t, 64, signs, d)
	message, _ := pad.Write(64, text, signs)
	wantSend(t, o, text, 0, message, api.OK)
	wantWords(t, o, d, 0, api.MaxPad, 0)
	wantTake(t, o, 0, message, text, api.OK)
	wantWords(t, o, d, 0, api.MaxPad, api.MaxPad)
	wantSend(t, o, []int{0}, 0, nil, api.ErrSpent)
	wantTake(t, o, api.MaxPad, []int{0}, nil, api.ErrSpent)
}

func TestO2TakenFromNowhere(t *testing.T) {
	for _, d := range []*disk{diskOf(0, 0), diskOf(0, 8), diskOf(0, -1)} {
		o := opened(t, 10, upToEight(), d)
		for _, at := range []int{-1, -2, -8, 9, 10, 1 << 32, 1<<32 + 2, -1 << 32, math.MaxInt, math.MaxInt - 1, math.MinInt} {
			for _, message := range [][]int{nil, {1}, {10}, {-1}, make([]int, 9), make([]int, api.MaxText+1)} {
				wantTake(t, o, at, message, nil, api.ErrRange)
			}
		}
		wantWords(t, o, d, 8, 0, d.words[1])
	}
}

// That signs were used is told ahead of what is wrong with the message.
func TestO2TakenTwice(t *testing.T) {
	for taken := range 9 {
		d := diskOf(0, int64(taken))
		o := opened(t, 10, upToEight(), d)
		for at := range taken {
			for _, message := range [][]int{nil, {1}, {10}, {-1}, make([]int, 9), make([]int, api.MaxText+1)} {
				wantTake(t, o, at, message, nil, api.ErrSpent)
			}
		}
		wantTake(t, o, taken, []int{10}, nil, api.ErrRange)
		wantWords(t, o, d, 8, 0, int64(taken))
		wantTake(t, o, taken, nil, nil, api.OK)
	}
}

// Messages may be lost: what lies between is never taken then.
func TestO2TakenFurtherOn(t *testing.T) {
	d := diskOf(0, 0)
	o := opened(t, 10, upToEight(), d)
	wantTake(t, o, 3, []int{4, 6}, []int{0, 1}, api.OK)
	wantWords(t, o, d, 8, 0, 5)
	wantTake(t, o, 0, []int{4}, nil, api.ErrSpent)
	wantTake(t, o, 4, []int{4}, nil, api.ErrSpent)
	wantTake(t, o, 7, []int{4, 4}, nil, api.ErrSpent)
	wantWords(t, o, d, 8, 0, 5)
	wantTake(t, o, 7, []int{4}, []int{6}, api.OK)
	wantWords(t, o, d, 8, 0, 8)
}

// wantDead: whatever is asked of it, an office that is dead says so, and puts nothing.
func wantDead(t *testing.T, o *Office, d *disk) {
	t.Helper()
	words, put := slices.Clone(d.words), len(d.put)
	for _, text := range [][]int{nil, {1}, {10}, {-1}, make([]int, 9), make([]int, api.MaxText+1)} {
		wantSend(t, o, text, 0, nil, api.ErrState)
		for _, at := range []int{0, 3, 8, 9, -1, math.MaxInt, math.MinInt} {
			wantTake(t, o, at, text, nil, api.ErrState)
		}
	}
	if !slices.Equal(d.words, words) || len(d.put) != put {
		t.Errorf("an office that is dead has put %d", d.put[put:])
	}
}

func TestO2NoPower(t *testing.T) {
	for _, text := range [][]int{nil, {4}, {4, 4, 4}} {
		for _, taken := range []bool{false, true} {
			d := diskOf(3, 2)
			o := opened(t, 10, upToEight(), d)
			d.left = 0
			if taken {
				wantTake(t, o, 4, text, nil, api.ErrPower)
			} else {
				wantSend(t, o, text, 0, nil, api.ErrPower)
			}
			wantWords(t, o, d, 5, 3, 2)
			wantDead(t, o, d)
			// It stays dead when there is power again: but another one may be opened.
			d.left = -1
			wantDead(t, o, d)
			wantWords(t, o, d, 5, 3, 2)
			again := opened(t, 10, upToEight(), d)
			wantSend(t, again, []int{1}, 3, []int{5}, api.OK)
			wantTake(t, again, 2, []int{1}, []int{8}, api.OK)
			wantWords(t, again, d, 4, 4, 3)
			wantDead(t, o, d)
		}
	}
}

// What is answered with another error needs no power: the office lives on.
func TestO2ErrorsAheadOfPower(t *testing.T) {
	d := diskOf(3, 2)
	o := opened(t, 10, upToEight(), d)
	d.left = 0
	wantSend(t, o, []int{10}, 0, nil, api.ErrRange)
	wantSend(t, o, make([]int, api.MaxText+1), 0, nil, api.ErrMany)
	wantSend(t, o, make([]int, 6), 0, nil, api.ErrSpent)
	wantTake(t, o, 9, nil, nil, api.ErrRange)
	wantTake(t, o, 1, nil, nil, api.ErrSpent)
	wantTake(t, o, 2, []int{-1}, nil, api.ErrRange)
	wantTake(t, o, 2, make([]int, api.MaxText+1), nil, api.ErrMany)
	wantTake(t, o, 2, make([]int, 7), nil, api.ErrSpent)
	wantWords(t, o, d, 5, 3, 2)
	d.left = 2
	wantSend(t, o, []int{0}, 3, []int{4}, api.OK)
	wantTake(t, o, 2, []int{4}, []int{1}, api.OK)
	wantSend(t, o, []int{0}, 0, nil, api.ErrPower)
	wantWords(t, o, d, 4, 4, 3)
	wantDead(t, o, d)
}
