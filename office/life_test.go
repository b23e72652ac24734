package office

import (
	"math/rand"
	"slices"
	"sync"
	"testing"

	"blackroom/api"
	"blackroom/pad"
)

// paper is an office as it would be kept on paper: of each sign whether it was used.
type paper struct {
	n           int
	signs       []int
	sent, taken []bool
	dead        bool
}

// usedOnPaper marks the signs ahead of a word; all of them, if it cannot be right.
func usedOnPaper(many int, word int64) []bool {
	out := make([]bool, many)
	for i := range out {
		out[i] = word < 0 || word > int64(many) || int64(i) < word
	}
	return out
}

func paperOf(n int, signs []int, words []int64) *paper {
	return &paper{n: n, signs: signs, sent: usedOnPaper(len(signs), words[0]), taken: usedOnPaper(len(signs), words[1])}
}

// unused is the first sign that was not used.
func unused(used []bool) int {
	for i, u := range used {
		if !u {
			return i
		}
	}
	return len(used)
}

// mark marks all signs ahead of one as used, if there is power; else it is dead.
func (p *paper) mark(used []bool, upTo int, power bool) api.Errno {
	if !power {
		p.dead = true
		return api.ErrPower
	}
	for i := range upTo {
		used[i] = true
	}
	return api.OK
}

func (p *paper) send(text []int, power bool) (int, []int, api.Errno) {
	if p.dead {
		return 0, nil, api.ErrState
	}
	at := unused(p.sent)
	message, err := pad.Write(p.n, text, p.signs[at:])
	if err == api.OK {
		err = p.mark(p.sent, at+len(text), power)
	}
	if err != api.OK {
		return 0, nil, err
	}
	return at, message, api.OK
}

func (p *paper) take(at int, message []int, power bool) ([]int, api.Errno) {
	if p.dead {
		return nil, api.ErrState
	}
	if at < 0 || at > len(p.signs) {
		return nil, api.ErrRange
	}
	if at < unused(p.taken) {
		return nil, api.ErrSpent
	}
	text, err := pad.Read(p.n, message, p.signs[at:])
	if err == api.OK {
		err = p.mark(p.taken, at+len(message), power)
	}
	if err != api.OK {
		return nil, err
	}
	return text, api.OK
}

// someStart is disks' words: some that an office may have put, some not.
func someStart(r *rand.Rand, many int) []int64 {
	out := []int64{0, 0}
	for i := range out {
		switch r.Intn(4) {
		case 0:
			out[i] = int64(r.Intn(many + 1))
		case 1:
			out[i] = int64(r.Intn(many+6) - 3)
		}
	}
	return out
}

// someText has now and then a sign that is none.
func someText(r *rand.Rand, n, most int) []int {
	out := someSigns(r, n, r.Intn(most))
	if len(out) > 0 && r.Intn(8) == 0 {
		out[r.Intn(len(out))] = n
	}
	return out
}

// The power goes and comes, offices are opened anew: each answer is that of the office on paper.
func TestO2LivesAsOnPaper(t *testing.T) {
	r := rand.New(rand.NewSource(162))
	for range 2000 {
		n, many := 2+r.Intn(63), r.Intn(30)
		signs := someSigns(r, n, many)
		d := diskOf(someStart(r, many)...)
		o, p := opened(t, n, signs, d), paperOf(n, signs, d.words)
		for range 40 {
			if r.Intn(6) == 0 {
				d.left = r.Intn(8) - 1
			}
			power := d.left != 0
			switch r.Intn(5) {
			case 0:
				o, p = opened(t, n, signs, d), paperOf(n, signs, d.words)
			case 1, 2:
				text := someText(r, n, 6)
				at, message, err := p.send(text, power)
				wantSend(t, o, text, at, message, err)
			default:
				at, message := r.Intn(many+4)-2, someText(r, n, 6)
				text, err := p.take(at, message, power)
				wantTake(t, o, at, message, text, err)
			}
			if left := many - unused(p.sent); o.Left() != left {
				t.Errorf("%d are left; want %d", o.Left(), left)
			}
		}
		if d.bad {
			t.Fatal("a word was asked for, or put, that is not the office's")
		}
	}
}

// each counts how often each sign of a pad was used.
type each []int

func (e each) use(at, many int) {
	for i := range many {
		e[at+i]++
	}
}

func (e each) wantOnce(t *testing.T, what string) {
	t.Helper()
	if len(e) > 0 && slices.Max(e) > 1 {
		t.Errorf("signs were used to %s so often: %d", what, e)
	}
}

// Whatever is sent and taken, however often the power goes, and however many offices have one disk: no sign is used twice.
func TestO2NoSignIsUsedTwice(t *testing.T) {
	r := rand.New(rand.NewSource(163))
	for range 1000 {
		many := r.Intn(30)
		signs := make([]int, many)
		d := diskOf(0, 0)
		sent, taken := make(each, many), make(each, many)
		offices := []*Office{opened(t, 2, signs, d), opened(t, 2, signs, d)}
		for range 60 {
			d.left = r.Intn(6) - 1
			o := offices[r.Intn(len(offices))]
			text := make([]int, r.Intn(4))
			if at, message, err := o.Send(text); err == api.OK {
				sent.use(at, len(message))
			}
			from := r.Intn(many + 1)
			if got, err := o.Take(from, text); err == api.OK {
				taken.use(from, len(got))
			}
			if r.Intn(3) == 0 {
				offices[r.Intn(len(offices))] = opened(t, 2, signs, d)
			}
		}
		sent.wantOnce(t, "send")
		taken.wantOnce(t, "take")
	}
}

// Of two offices with one disk each goes on where the other one stopped.
func TestO2TwoOfficesWithOneDisk(t *testing.T) {
	d := diskOf(0, 0)
	a, b := opened(t, 10, upToEight(), d), opened(t, 10, upToEight(), d)
	wantSend(t, a, []int{0, 0}, 0, []int{1, 2}, api.OK)
	wantWords(t, b, d, 6, 2, 0)
	wantSend(t, b, []int{0}, 2, []int{3}, api.OK)
	wantSend(t, a, []int{0}, 3, []int{4}, api.OK)
	wantTake(t, b, 0, []int{1, 2}, []int{0, 0}, api.OK)
	wantTake(t, a, 1, []int{2}, nil, api.ErrSpent)
	wantWords(t, a, d, 4, 4, 2)
	// If the power goes, that one is dead which found out.
	d.left = 0
	wantSend(t, a, nil, 0, nil, api.ErrPower)
	d.left = -1
	wantDead(t, a, d)
	wantSend(t, b, nil, 4, nil, api.OK)
}

// What one office sends the other one takes, though some messages are lost.
func TestO2WhatIsSentIsTaken(t *testing.T) {
	r := rand.New(rand.NewSource(164))
	for range 200 {
		n := 2 + r.Intn(63)
		signs := someSigns(r, n, 100)
		here, there := opened(t, n, signs, diskOf(0, 0)), opened(t, n, signs, diskOf(0, 0))
		for here.Left() > 0 {
			text := someSigns(r, n, r.Intn(min(here.Left(), 9)+1))
			at, message, err := here.Send(text)
			if err != api.OK {
				t.Fatalf("Send of %d signs: %d", len(text), err)
			}
			if r.Intn(3) > 0 {
				wantTake(t, there, at, message, text, api.OK)
			}
		}
	}
}

// Offices at work at the same time, each with a disk of its own, do not know of one another.
func TestE1OfficesOfTheirOwn(t *testing.T) {
	signs := slices.Repeat(upToEight(), 50)
	var all sync.WaitGroup
	for hand := range 8 {
		all.Go(func() {
			d := diskOf(0, 0)
			o, err := Open(10, signs, d)
			if err != api.OK {
				t.Errorf("Open: %d", err)
				return
			}
			for i := range 40 {
				at := i * (hand + 1)
				message, _ := pad.Write(10, make([]int, hand+1), signs[at:])
				wantSend(t, o, make([]int, hand+1), at, message, api.OK)
				wantTake(t, o, at, message, make([]int, hand+1), api.OK)
			}
			many := int64(40 * (hand + 1))
			wantWords(t, o, d, 400-int(many), many, many)
		})
	}
	all.Wait()
}

// roomy has spare room behind its numbers, in which others stand.
func roomy(l []int) []int { return append(slices.Clone(l), 1, -1, 99, 0)[:len(l)] }

// spoil writes over a list, its spare room too.
func spoil(l []int) {
	l = l[:cap(l)]
	for i := range l {
		l[i] = 77
	}
}

// wantUntouched does something with a list, and holds it and its spare room against what they were.
func wantUntouched(t *testing.T, l []int, do func(l []int)) {
	t.Helper()
	given := roomy(l)
	all := slices.Clone(given[:cap(given)])
	do(given)
	if !slices.Equal(given[:cap(given)], all) {
		t.Errorf("what was handed in has been changed: %d; it was %d", given[:cap(given)], all)
	}
	spoil(given)
}

// What was handed in is only read, and may be changed as soon as the call has answered.
func TestE2OfficeOnlyReads(t *testing.T) {
	d := diskOf(0, 0)
	var o *Office
	wantUntouched(t, upToEight(), func(l []int) { o = opened(t, 10, l, d) })
	wantUntouched(t, []int{5, 5, 5}, func(l []int) { wantSend(t, o, l, 0, []int{6, 7, 8}, api.OK) })
	wantUntouched(t, []int{6, 7}, func(l []int) { wantTake(t, o, 0, l, []int{5, 5}, api.OK) })
	wantUntouched(t, []int{5, 10}, func(l []int) { wantSend(t, o, l, 0, nil, api.ErrRange) })
	wantUntouched(t, []int{6, -7}, func(l []int) { wantTake(t, o, 2, l, nil, api.ErrRange) })
	wantUntouched(t, []int{0, 9}, func(l []int) { wantSend(t, o, l, 3, []int{4, 4}, api.OK) })
	wantUntouched(t, []int{4, 4}, func(l []int) { wantTake(t, o, 3, l, []int{0, 9}, api.OK) })
	wantWords(t, o, d, 3, 5, 5)
}

// An answer is the caller's: whatever is written over it, the office's pad stays.
func TestE2OfficeAnswersAreNew(t *testing.T) {
	d := diskOf(0, 0)
	o := opened(t, 10, upToEight(), d)
	for at := range 8 {
		text := []int{0}
		_, message, err := o.Send(text)
		if err != api.OK || !slices.Equal(message, []int{at + 1}) {
			t.Fatalf("Send at %d: %d, %d", at, message, err)
		}
		spoil(message)
		taken, err := o.Take(at, []int{at + 1})
		if err != api.OK || !slices.Equal(taken, []int{0}) || text[0] != 0 {
			t.Fatalf("Take at %d: %d, %d; the text is %d now", at, taken, err, text)
		}
		spoil(taken)
	}
}

// A pad without signs, nil or not, is an office of which nothing is left.
func TestE3PadsWithoutSigns(t *testing.T) {
	for _, none := range [][]int{nil, {}, make([]int, 0, 5)} {
		d := diskOf(0, 0)
		wantWords(t, opened(t, 2, none, d), d, 0, 0, 0)
		wantNone(t, 1, none, d, api.ErrKind)
		wantNone(t, 2, none, diskOf(0), api.ErrMuch)
	}
}
