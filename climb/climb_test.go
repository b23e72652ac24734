package climb

import (
	"math"
	"math/rand"
	"slices"
	"strings"
	"testing"

	"blackroom/api"
	"blackroom/perm"
)

func wantScore(t *testing.T, text string, points []int, key api.Perm, want int, wantErr api.Errno) {
	t.Helper()
	if got, err := Score(text, points, key); got != want || err != wantErr {
		t.Errorf("Score(%d letters %.40q, %d numbers, %v) = %d, %d; want %d, %d", len(text), text, len(points), key, got, err, want, wantErr)
	}
}

// wantNeither: Score of any key, also of one that is none, and Climb, also of tries and hands that are none, tell the same error.
func wantNeither(t *testing.T, text string, points []int, want api.Errno) {
	t.Helper()
	for _, key := range []api.Perm{perm.Same(), {}, {-1}, {26}} {
		wantScore(t, text, points, key, 0, want)
	}
	for _, x := range [][2]int{{1, 1}, {3, 2}, {0, 1}, {1, 0}, {api.MaxTries + 1, api.MaxHands + 1}} {
		wantClimb(t, text, points, 5, x[0], x[1], api.Climbed{}, want)
	}
}

// table is worth nothing, but where it is said.
func table(worth map[string]int) []int {
	out := make([]int, 676)
	for pair, n := range worth {
		out[strings.IndexByte(alphabet, pair[0])*26+strings.IndexByte(alphabet, pair[1])] = n
	}
	return out
}

const alphabet = "ABCDEFGHIJKLMNOPQRSTUVWXYZ"

// keyOf is the key that takes the alphabet to text.
func keyOf(text string) api.Perm {
	var out api.Perm
	for i := range out {
		out[i] = strings.Index(alphabet, text[i:i+1])
	}
	return out
}

// scoreOnPaper writes down what becomes of the text, and looks each two of its letters up.
func scoreOnPaper(text string, points []int, key api.Perm) int {
	became := strings.Map(func(r rune) rune { return 'A' + rune(key[r-'A']) }, text)
	sum := 0
	for len(became) > 1 {
		row := points[strings.IndexByte(alphabet, became[0])*26:][:26]
		sum += row[strings.IndexByte(alphabet, became[1])]
		became = became[1:]
	}
	return sum
}

func someText(r *rand.Rand, letters, long int) string {
	out := make([]byte, long)
	for i := range out {
		out[i] = 'A' + byte(r.Intn(letters))
	}
	return string(out)
}

// somePoints are at most most, either way.
func somePoints(r *rand.Rand, most int) []int {
	out := make([]int, 676)
	for i := range out {
		out[i] = r.Intn(2*most+1) - most
	}
	return out
}

func someKey(r *rand.Rand) api.Perm { return api.Perm(r.Perm(26)) }

// set is l with another number at one place.
func set(l []int, at, n int) []int {
	out := slices.Clone(l)
	out[at] = n
	return out
}

func notPoints() []int {
	return []int{api.MaxPoint + 1, -api.MaxPoint - 1, api.MaxPoint + 2, 1 << 32, 1<<32 + 1, -1 << 32, math.MaxInt, math.MinInt, math.MinInt + 1}
}

func TestJ1ScoreByHand(t *testing.T) {
	points := table(map[string]int{"AB": 7, "BA": 50, "BC": -9, "AA": 300, "ZZ": -1000, "ZA": 1000, "CA": 4})
	turned := keyOf("BCADEFGHIJKLMNOPQRSTUVWXYZ") // A to B, B to C, C to A
	ends := keyOf("ZBCDEFGHIJKLMNOPQRSTUVWXYA")
	for _, c := range []struct {
		text string
		key  api.Perm
		want int
	}{
		{"", perm.Same(), 0},
		{"A", perm.Same(), 0},
		{"AB", perm.Same(), 7},
		{"BA", perm.Same(), 50},
		{"ABA", perm.Same(), 57},
		{"ABC", perm.Same(), -2},
		{"ABAB", perm.Same(), 64},
		{"AAA", perm.Same(), 600},
		{"AXB", perm.Same(), 0},
		{"ZZAA", perm.Same(), 300},
		{"", turned, 0},
		{"C", turned, 0},
		{"AB", turned, -9},  // becomes BC
		{"CA", turned, 7},   // becomes AB
		{"ABC", turned, -5}, // becomes BCA
		{"CCC", turned, 600},
		{"AZ", ends, 1000}, // becomes ZA
		{"AAAA", ends, -3000},
		{"ZZ", ends, 300},
	} {
		wantScore(t, c.text, points, c.key, c.want, api.OK)
	}
}

// Each two letters have a place of their own in the table: 26 times the first one's number, and the second one's.
func TestJ1ScoreOfEachTwo(t *testing.T) {
	points := make([]int, 676)
	for i := range points {
		points[i] = i
	}
	for x := range 26 {
		for y := range 26 {
			wantScore(t, alphabet[x:x+1]+alphabet[y:y+1], points, perm.Same(), 26*x+y, api.OK)
		}
	}
}

func TestJ1ScoreOfAny(t *testing.T) {
	r := rand.New(rand.NewSource(151))
	for range 2000 {
		text, points, key := someText(r, 1+r.Intn(26), r.Intn(api.MaxClimb+1)), somePoints(r, api.MaxPoint), someKey(r)
		wantScore(t, text, points, key, scoreOnPaper(text, points, key), api.OK)
	}
}

// A key that is done with the text ahead of scoring it makes no other score.
func TestJ1ScoreIsThatOfWhatTheTextBecomes(t *testing.T) {
	r := rand.New(rand.NewSource(152))
	for range 200 {
		text, points, p, q := someText(r, 26, 1+r.Intn(api.MaxClimb)), somePoints(r, api.MaxPoint), someKey(r), someKey(r)
		both, _ := perm.Then(p, q)
		became := strings.Map(func(letter rune) rune { return 'A' + rune(p[letter-'A']) }, text)
		one, _ := Score(text, points, both)
		wantScore(t, became, points, q, one, api.OK)
	}
}

func TestJ1ScoreOfTheMost(t *testing.T) {
	for _, n := range []int{api.MaxPoint, -api.MaxPoint, 1, 0} {
		points := slices.Repeat([]int{n}, 676)
		wantScore(t, strings.Repeat("Q", api.MaxClimb), points, perm.Same(), 255*n, api.OK)
		wantScore(t, strings.Repeat("QZ", api.MaxClimb/2), points, perm.Same(), 255*n, api.OK)
	}
}

func TestJ1WrongText(t *testing.T) {
	r := rand.New(rand.NewSource(153))
	for _, points := range [][]int{somePoints(r, 9), nil, {1}, slices.Repeat([]int{2000}, 676), slices.Repeat([]int{2000}, 677)} {
		for _, text := range []string{
			"a", "AbC", "A B", "AB\n", "Ä", "\x00", "\xff", "@", "[", "AB1",
			strings.Repeat("A", api.MaxClimb) + "a",
			strings.Repeat("A", api.MaxText-1) + ".", // too long for a climb, but that is told only of letters
		} {
			wantNeither(t, text, points, api.ErrForm)
		}
		for _, text := range []string{
			strings.Repeat("A", api.MaxClimb+1),
			strings.Repeat("ABC", api.MaxClimb),
			strings.Repeat("Z", api.MaxText),
			strings.Repeat("Z", api.MaxText+1),
			strings.Repeat("a", api.MaxText+1), // too long to be looked at
		} {
			wantNeither(t, text, points, api.ErrMuch)
		}
	}
}

func TestJ1WrongTable(t *testing.T) {
	r := rand.New(rand.NewSource(154))
	points := somePoints(r, api.MaxPoint)
	for _, text := range []string{"", "A", "AB", strings.Repeat("ABC", 85)} {
		for _, long := range []int{0, 1, 26, 675} {
			wantNeither(t, text, points[:long], api.ErrFit)
			wantNeither(t, text, slices.Repeat([]int{5000}, long), api.ErrFit)
		}
		wantNeither(t, text, nil, api.ErrFit)
		wantNeither(t, text, append(slices.Clone(points), 0), api.ErrFit)
		wantNeither(t, text, append(slices.Clone(points), 1001), api.ErrFit)
		wantNeither(t, text, slices.Concat(points, points), api.ErrFit)
		for _, n := range notPoints() {
			for _, at := range []int{0, 1, 25, 26, 300, 674, 675} {
				wantNeither(t, text, set(points, at, n), api.ErrRange)
			}
		}
	}
	for at := range 676 {
		wantNeither(t, "AB", set(points, at, 1001), api.ErrRange)
		wantNeither(t, "AB", set(points, at, -1001), api.ErrRange)
	}
}

func TestJ1TablesAtTheEdge(t *testing.T) {
	points := make([]int, 676)
	for _, at := range []int{0, 1, 25, 26, 675} {
		for _, n := range []int{api.MaxPoint, -api.MaxPoint} {
			text := alphabet[at/26:][:1] + alphabet[at%26:][:1]
			wantScore(t, text, set(points, at, n), perm.Same(), n, api.OK)
			if _, err := Climb(text, set(points, at, n), 1, 1, 1); err != api.OK {
				t.Errorf("Climb with %d at %d: %d", n, at, err)
			}
		}
	}
}

func TestJ1WrongKey(t *testing.T) {
	r := rand.New(rand.NewSource(155))
	points := somePoints(r, api.MaxPoint)
	for _, text := range []string{"", "A", "AB", someText(r, 26, api.MaxClimb)} {
		wantScore(t, text, points, api.Perm{}, 0, api.ErrFit)
		for range 20 {
			key := someKey(r)
			key[r.Intn(26)] = []int{-1, 26, 27, math.MaxInt, math.MinInt}[r.Intn(5)]
			wantScore(t, text, points, key, 0, api.ErrRange)
			key = someKey(r)
			i := r.Intn(26)
			key[i] = key[(i+1+r.Intn(25))%26]
			wantScore(t, text, points, key, 0, api.ErrFit)
		}
		// Whichever is met first.
		wantScore(t, text, points, api.Perm{3, 3, 26}, 0, api.ErrFit)
		wantScore(t, text, points, api.Perm{3, 26, 3}, 0, api.ErrRange)
	}
}

// roomy has spare room behind its numbers, in which others stand.
func roomy(l []int) []int { return append(slices.Clone(l), 1, -1, 99999, 0)[:len(l)] }

func TestE2ClimbOnlyReads(t *testing.T) {
	r := rand.New(rand.NewSource(156))
	points, text, key := somePoints(r, 40), someText(r, 26, 60), someKey(r)
	score, _ := Score(text, points, key)
	climbed, _ := Climb(text, points, 9, 4, 3)
	given := roomy(points)
	all := slices.Clone(given[:cap(given)])
	for range 20 {
		wantScore(t, text, given, key, score, api.OK)
		wantClimb(t, text, given, 9, 4, 3, climbed, api.OK)
	}
	wantNeither(t, text, given[:675], api.ErrFit)
	wantNeither(t, text, given[:677], api.ErrFit)
	wantNeither(t, "x", given, api.ErrForm)
	if !slices.Equal(given[:cap(given)], all) {
		t.Errorf("the table has been changed")
	}
	wantScore(t, text, points, key, score, api.OK)
}
