package tally

import (
	"math"
	"math/big"
	"math/rand"
	"strconv"
	"strings"
	"testing"

	"blackroom/api"
	"blackroom/tableau"
)

const alphabet = "ABCDEFGHIJKLMNOPQRSTUVWXYZ"

func fault(e api.Errno, at int) api.Fault { return api.Fault{Err: e, At: at} }

func wantCounts(t *testing.T, text string, want [api.Letters]int, wantFault api.Fault) {
	t.Helper()
	if got, f := Counts(text); got != want || f != wantFault {
		t.Errorf("Counts of %s = %v, %v; want %v, %v", head(text), got, f, want, wantFault)
	}
}

func wantIndex(t *testing.T, text string, columns int, want api.Ratio, wantFault api.Fault) {
	t.Helper()
	if got, f := Index(text, columns); got != want || f != wantFault {
		t.Errorf("Index of %s in %d columns = %v, %v; want %v, %v", head(text), columns, got, f, want, wantFault)
	}
}

func wantPeriod(t *testing.T, text string, most, want int, wantFault api.Fault) {
	t.Helper()
	if got, f := Period(text, most); got != want || f != wantFault {
		t.Errorf("Period of %s up to %d = %v, %v; want %v, %v", head(text), most, got, f, want, wantFault)
	}
}

// wantChi holds floats against each other bit by bit: +0 is not -0.
func wantChi(t *testing.T, text string, w Weights, want float64, wantFault api.Fault) {
	t.Helper()
	if got, f := Chi(text, w); math.Float64bits(got) != math.Float64bits(want) || f != wantFault {
		t.Errorf("Chi of %s = %x, %v; want %x, %v", head(text), got, f, want, wantFault)
	}
}

func wantShift(t *testing.T, text string, w Weights, want int, wantFault api.Fault) {
	t.Helper()
	if got, f := Shift(text, w); got != want || f != wantFault {
		t.Errorf("Shift of %s = %v, %v; want %v, %v", head(text), got, f, want, wantFault)
	}
}

// head keeps what a test tells short.
func head(text string) string { return strconv.Quote(text[:min(len(text), 40)]) }

// someOf takes the first letters alone, so that many are alike.
func someOf(r *rand.Rand, long, first int) string {
	out := make([]byte, long)
	for i := range out {
		out[i] = alphabet[r.Intn(first)]
	}
	return string(out)
}

func someWeights(r *rand.Rand) Weights {
	var w Weights
	for i := range w {
		w[i] = math.Ldexp(1+r.Float64(), -1-r.Intn(20))
	}
	return w
}

// alikeWeights has the same weight for each letter.
func alikeWeights(weight float64) Weights {
	var w Weights
	for i := range w {
		w[i] = weight
	}
	return w
}

func ascending() Weights {
	var w Weights
	for i := range w {
		w[i] = float64(i+1) / 351
	}
	return w
}

// english is how often letters stand in English texts, of 1000.
func english() Weights {
	var w Weights
	for i, n := range [api.Letters]float64{82, 15, 28, 43, 127, 22, 20, 61, 70, 2, 8, 40, 24, 67, 75, 19, 1, 60, 63, 91, 28, 10, 24, 2, 20, 1} {
		w[i] = n / 1000
	}
	return w
}

const speech = "FOURSCOREANDSEVENYEARSAGOOURFATHERSBROUGHTFORTHONTHISCONTINENTANEWNATIONCONCEIVEDINLIBERTYANDDEDICATEDTOTHEPROPOSITIONTHATALLMENARECREATEDEQUALNOWWEAREENGAGEDINAGREATCIVILWARTESTINGWHETHERTHATNATIONORANYNATIONSOCONCEIVEDANDSODEDICATEDCANLONGENDURE"

// places holds each two places of a text against each other.
func places(text string, columns int) (same, all int64) {
	for i := range text {
		for k := i + columns; k < len(text); k += columns {
			all++
			if text[i] == text[k] {
				same++
			}
		}
	}
	return same, all
}

// columnwise counts as places does, in texts that are too long for that.
func columnwise(text string, columns int) (same, all int64) {
	for first := range columns {
		var column []byte
		for i := first; i < len(text); i += columns {
			column = append(column, text[i])
		}
		for _, c := range []byte(alphabet) {
			n := int64(strings.Count(string(column), string(rune(c))))
			same += n * (n - 1) / 2
		}
		all += int64(len(column)) * int64(len(column)-1) / 2
	}
	return same, all
}

type counter func(text string, columns int) (same, all int64)

// wantAlike holds Index for each number of columns, and Period for each most, against what a counter counts.
func wantAlike(t *testing.T, text string, count counter) {
	t.Helper()
	best, greatest := 0, big.NewRat(-1, 1)
	for columns := 1; columns <= api.MaxPeriods; columns++ {
		same, all := count(text, columns)
		if all == 0 {
			wantIndex(t, text, columns, api.Ratio{}, fault(api.ErrMany, 0))
		} else {
			r := big.NewRat(same, all)
			wantIndex(t, text, columns, api.Ratio{Up: int(r.Num().Int64()), Down: int(r.Denom().Int64())}, api.Fault{})
			if r.Cmp(greatest) > 0 {
				best, greatest = columns, r
			}
		}
		if best == 0 {
			wantPeriod(t, text, columns, 0, fault(api.ErrMany, 0))
		} else {
			wantPeriod(t, text, columns, best, api.Fault{})
		}
	}
}

// rounded is a float of as many bits as Go's, rounded to the nearest, ties to even, after each step.
func rounded() *big.Float { return new(big.Float).SetPrec(53).SetMode(big.ToNearestEven) }

// farOnPaper goes step by step, as the document says them.
func farOnPaper(text string, w Weights, s int) float64 {
	sum := rounded()
	for i := range api.Letters {
		stands := strings.Count(text, alphabet[(i+s)%api.Letters:][:1])
		want := rounded().Mul(rounded().SetInt64(int64(len(text))), rounded().SetFloat64(w[i]))
		d := rounded().Sub(rounded().SetInt64(int64(stands)), want)
		product := rounded().Mul(d, d)
		quotient := rounded().Quo(product, want)
		sum.Add(sum, quotient)
	}
	x, _ := sum.Float64()
	return x
}

func leastFarOnPaper(text string, w Weights) int {
	best, least := 0, math.Inf(1)
	for s := range api.Letters {
		if x := farOnPaper(text, w, s); x < least {
			best, least = s, x
		}
	}
	return best
}

// wrongTexts are what Check refuses, and how.
var wrongTexts = []struct {
	text string
	want api.Fault
}{
	{"a", fault(api.ErrForm, 0)},
	{"ABAb", fault(api.ErrForm, 3)},
	{"ABAB ", fault(api.ErrForm, 4)},
	{"A@[", fault(api.ErrForm, 1)},
	{"AB[", fault(api.ErrForm, 2)},
	{"PÄ", fault(api.ErrForm, 1)},
	{"AB\x00", fault(api.ErrForm, 2)},
	{"\xff", fault(api.ErrForm, 0)},
	{"AA1", fault(api.ErrForm, 2)},
	{strings.Repeat("A", api.MaxText-1) + "\n", fault(api.ErrForm, api.MaxText-1)},
	{strings.Repeat("A", api.MaxText+1), fault(api.ErrMuch, 0)},
	{strings.Repeat("a", api.MaxText+1), fault(api.ErrMuch, 0)},
}

// wrongColumns are no numbers of columns.
var wrongColumns = []int{0, -1, -2, -64, api.MaxPeriods + 1, api.MaxPeriods + 2, api.MaxText, math.MaxInt, math.MinInt}

// wrongWeights are no weights, each beside one that is.
func wrongWeights() []float64 {
	return []float64{0, math.Copysign(0, -1), -0.5, -1, math.Nextafter(0x1p-20, 0), 0x1p-21, math.SmallestNonzeroFloat64, math.Nextafter(1, 2), 1.5, 2, math.MaxFloat64, -math.MaxFloat64, math.Inf(1), math.Inf(-1), math.NaN(), math.Copysign(math.NaN(), -1), math.Float64frombits(0x7ff0000000000001)}
}

func TestN1Counts(t *testing.T) {
	var ones, many [api.Letters]int
	for i := range ones {
		ones[i] = 1
	}
	many[25] = api.MaxText
	for _, c := range []struct {
		text string
		want [api.Letters]int
	}{
		{"", [api.Letters]int{}},
		{"A", [api.Letters]int{1}},
		{"Z", [api.Letters]int{25: 1}},
		{"ABRACADABRA", [api.Letters]int{0: 5, 1: 2, 2: 1, 3: 1, 17: 2}},
		{"MISSISSIPPI", [api.Letters]int{8: 4, 12: 1, 15: 2, 18: 4}},
		{alphabet, ones},
		{strings.Repeat("Z", api.MaxText), many},
	} {
		wantCounts(t, c.text, c.want, api.Fault{})
	}
}

func TestN1CountsAsStringsCount(t *testing.T) {
	r := rand.New(rand.NewSource(7))
	for _, long := range []int{1, 2, 25, 26, 27, 500, api.MaxText - 1, api.MaxText} {
		text := someOf(r, long, 1+r.Intn(api.Letters))
		var want [api.Letters]int
		for i := range want {
			want[i] = strings.Count(text, alphabet[i:i+1])
		}
		wantCounts(t, text, want, api.Fault{})
	}
}

func TestN1CountsOfWrongTexts(t *testing.T) {
	for _, c := range wrongTexts {
		wantCounts(t, c.text, [api.Letters]int{}, c.want)
	}
}

func TestN1Index(t *testing.T) {
	for _, c := range []struct {
		text     string
		columns  int
		up, down int
	}{
		{"ABAB", 1, 1, 3},
		{"ABAB", 2, 1, 1},
		{"ABAB", 3, 0, 1},
		{"AA", 1, 1, 1},
		{"AB", 1, 0, 1}, // none are alike
		{"ABC", 1, 0, 1},
		{"ABC", 2, 0, 1},
		{"ABA", 2, 1, 1}, // the second column has no pairs
		{"ABCA", 3, 1, 1},
		{"AAB", 1, 1, 3},
		{"AABB", 1, 1, 3},
		{"AABB", 2, 0, 1},
		{"AAAAB", 1, 3, 5},
		{"AAAABA", 1, 2, 3},
		{"AABBA", 2, 1, 4}, // ABA and AB: one in three, and none in one, are one in four
		{alphabet, 1, 0, 1},
		{alphabet + alphabet, 1, 1, 51},
		{alphabet + alphabet, 26, 1, 1},
		{alphabet + alphabet, 52 / 4, 1, 3},
		{alphabet + alphabet, 51, 0, 1}, // A at the beginning, and Z at the end
		{strings.Repeat("A", 65), 64, 1, 1},
		{strings.Repeat("B", 64) + "A", 64, 0, 1},
		{strings.Repeat("A", api.MaxText), 1, 1, 1},
		{strings.Repeat("A", api.MaxText), 64, 1, 1},
		{strings.Repeat("A", api.MaxText-1) + "B", 1, 32767, 32768},
		{strings.Repeat("AB", api.MaxText/2), 1, 32767, 65535},
	} {
		wantIndex(t, c.text, c.columns, api.Ratio{Up: c.up, Down: c.down}, api.Fault{})
	}
}

func TestN1IndexOfNoPairs(t *testing.T) {
	for columns := 1; columns <= api.MaxPeriods; columns++ {
		for long := range columns + 1 {
			wantIndex(t, strings.Repeat("A", long), columns, api.Ratio{}, fault(api.ErrMany, 0))
		}
		wantIndex(t, strings.Repeat("A", columns+1), columns, api.Ratio{Up: 1, Down: 1}, api.Fault{})
	}
}

// How often letters are alike is hidden by no key: in as many columns as it is long.
func TestN1IndexIsHiddenByNoKey(t *testing.T) {
	r := rand.New(rand.NewSource(70))
	for long := 1; long <= api.MaxPeriods; long++ {
		key := someOf(r, long, api.Letters)
		want, f := Index(speech, long)
		for _, kind := range []int{api.Vigenere, api.Beaufort, api.Variant} {
			hidden, _ := tableau.Write(kind, key, speech)
			wantIndex(t, hidden, long, want, f)
		}
	}
}

func TestN1IndexOfWrongTexts(t *testing.T) {
	for _, c := range wrongTexts {
		for _, columns := range append([]int{1, 2, api.MaxPeriods}, wrongColumns...) {
			wantIndex(t, c.text, columns, api.Ratio{}, c.want)
		}
	}
}

// A wrong number of columns is told ahead of pairs that there are none of.
func TestN1IndexInWrongColumns(t *testing.T) {
	for _, text := range []string{"", "A", "AB", "ABAB", speech, strings.Repeat("A", api.MaxText)} {
		for _, columns := range wrongColumns {
			wantIndex(t, text, columns, api.Ratio{}, fault(api.ErrRange, 0))
		}
	}
}

func TestN2Period(t *testing.T) {
	for _, c := range []struct {
		text       string
		most, want int
	}{
		{"AA", 1, 1},
		{"AA", 64, 1}, // Index tells of one column alone
		{"AB", 1, 1},  // none are alike: 0 is the greatest
		{"AB", 64, 1},
		{"ABC", 64, 1},
		{"ABAB", 1, 1},
		{"ABAB", 2, 2},
		{"ABAB", 3, 2},
		{"ABABABAB", 64, 2}, // as great in 4, and in 6
		{"ABCABC", 2, 1},
		{"ABCABC", 3, 3},
		{"ABCABC", 64, 3},
		{"AAAA", 64, 1},
		{"ABRACADABRA", 4, 1},
		{"ABRACADABRA", 6, 5},
		{"ABRACADABRA", 7, 7},
		{"ABCA", 2, 1},
		{"ABCA", 3, 3},
		{strings.Repeat("B", 63) + "AB", 64, 64},
		{strings.Repeat("B", 63) + "AB", 63, 32},
		{alphabet + alphabet, 25, 13},
		{alphabet + alphabet, 26, 26},
		{alphabet + alphabet, 64, 26},
		{strings.Repeat("A", api.MaxText), 64, 1},
		{strings.Repeat("AB", api.MaxText/2), 64, 2},
		{strings.Repeat("ABCD", api.MaxText/4), 3, 2},
		{strings.Repeat("ABCD", api.MaxText/4), 64, 4},
		{strings.Repeat("A", api.MaxText-64) + strings.Repeat("B", 64), 1, 1},
	} {
		wantPeriod(t, c.text, c.most, c.want, api.Fault{})
	}
}

func TestN2PeriodOfNoPairs(t *testing.T) {
	for most := 1; most <= api.MaxPeriods; most++ {
		for _, text := range []string{"", "A", "Z"} {
			wantPeriod(t, text, most, 0, fault(api.ErrMany, 0))
		}
	}
}

// The period of a text that was hidden is as long as the key: LEMON is one of five letters.
func TestN2PeriodTellsTheKey(t *testing.T) {
	hidden, _ := tableau.Write(api.Vigenere, "LEMON", speech)
	wantPeriod(t, hidden, 9, 5, api.Fault{})
}

func TestN1N2AllTextsOfSomeLetters(t *testing.T) {
	for long := range 6 {
		all := int(math.Pow(3, float64(long)))
		for n := range all {
			text := make([]byte, long)
			for i := range text {
				text[i] = "AMZ"[n%3]
				n /= 3
			}
			wantAlike(t, string(text), places)
		}
	}
}

func TestN1N2EachTwoPlaces(t *testing.T) {
	r := rand.New(rand.NewSource(71))
	for range 300 {
		wantAlike(t, someOf(r, r.Intn(150), 1+r.Intn(api.Letters)), places)
	}
	wantAlike(t, speech, places)
}

func TestN1N2LongestTexts(t *testing.T) {
	r := rand.New(rand.NewSource(72))
	almost := []byte(strings.Repeat("A", api.MaxText))
	for _, i := range []int{0, 7, 64, 5000, api.MaxText - 1} {
		almost[i] = 'B'
	}
	wantAlike(t, string(almost), columnwise)
	wantAlike(t, someOf(r, api.MaxText, 2), columnwise)
	wantAlike(t, someOf(r, api.MaxText-1, api.Letters), columnwise)
}

func TestN2PeriodOfWrongTexts(t *testing.T) {
	for _, c := range wrongTexts {
		for _, most := range append([]int{1, 2, api.MaxPeriods}, wrongColumns...) {
			wantPeriod(t, c.text, most, 0, c.want)
		}
	}
}

// A wrong most is told ahead of an Index that tells of none.
func TestN2PeriodUpToWrongNumbers(t *testing.T) {
	for _, text := range []string{"", "A", "AB", "ABAB", speech, strings.Repeat("A", api.MaxText)} {
		for _, most := range wrongColumns {
			wantPeriod(t, text, most, 0, fault(api.ErrRange, 0))
		}
	}
}

// Numbers of which each step is as it is on paper.
func TestN3ChiOfWholeNumbers(t *testing.T) {
	for _, c := range []struct {
		text string
		w    Weights
		want float64
	}{
		{"A", alikeWeights(1), 25},           // none of 25 letters, of each of which 1 is wanted
		{"AA", alikeWeights(1), 50},          // 0 of 2 wanted is as far as 2
		{"A", alikeWeights(0.5), 13},         // one half squared over one half, 26 times
		{"AB", alikeWeights(0.5), 24},        // of each one is wanted
		{"AAAA", alikeWeights(0.25), 34},     // 9 and 25
		{"AAAB", alikeWeights(0.25), 4 + 24}, // 4 and 0 and 24
		{"ZZZZ", alikeWeights(0.25), 34},     // the last letter counts as the first one does
		{strings.Repeat("M", 32), alikeWeights(1.0 / 32), 31*31 + 25},
		{strings.Repeat("A", api.MaxText), alikeWeights(1), 25 * api.MaxText},
	} {
		wantChi(t, c.text, c.w, c.want, api.Fault{})
	}
}

// A text that is just as it is expected to be is not far at all; moved on, it is to be moved back as far.
func TestN3NotFarAtAll(t *testing.T) {
	w, text := alikeWeights(1.0/32), alphabet+alphabet[:6]
	for i := range 6 {
		w[i] = 1.0 / 16
	}
	wantChi(t, text, w, 0, api.Fault{})
	for s := range api.Letters {
		moved, _ := tableau.Write(api.Vigenere, alphabet[s:s+1], text)
		wantShift(t, moved, w, s, api.Fault{})
	}
}

// What other steps would make of the same numbers: of each there is a text of which they tell something else than the document's do.
var otherSteps = map[string]func(sum, stands, long, weight float64) float64{
	"the difference is rounded with the product": func(sum, stands, long, weight float64) float64 {
		want, d := long*weight, math.FMA(-long, weight, stands)
		return sum + d*d/want
	},
	"the quotient comes first": func(sum, stands, long, weight float64) float64 {
		want := long * weight
		d := stands - want
		return sum + d*(d/want)
	},
	"the sum is rounded with a product": func(sum, stands, long, weight float64) float64 {
		want := long * weight
		d := stands - want
		return math.FMA(d, d/want, sum)
	},
	"parts instead of counts": func(sum, stands, long, weight float64) float64 {
		d := stands/long - weight
		return sum + long*(d*d/weight)
	},
	"squares less what is wanted": func(sum, stands, long, weight float64) float64 {
		want := long * weight
		return sum + (stands*stands/want - 2*stands + want)
	},
	"by what is wanted is divided as by its inverse": func(sum, stands, long, weight float64) float64 {
		want := long * weight
		d := stands - want
		return sum + d*d*(1/want)
	},
	"floats of half as many bits": func(sum, stands, long, weight float64) float64 {
		want := float32(long) * float32(weight)
		d := float32(stands) - want
		return float64(float32(sum) + d*d/want)
	},
}

func farBy(step func(sum, stands, long, weight float64) float64, text string, w Weights) float64 {
	sum := 0.0
	for i := range w {
		sum = step(sum, float64(strings.Count(text, alphabet[i:i+1])), float64(len(text)), w[i])
	}
	return sum
}

func fromTheEnd(text string, w Weights) float64 {
	sum := 0.0
	for i := api.Letters - 1; i >= 0; i-- {
		want := float64(float64(len(text)) * w[i])
		d := float64(strings.Count(text, alphabet[i:i+1])) - want
		sum += float64(d*d) / want
	}
	return sum
}

func TestN3OtherStepsTellSomethingElse(t *testing.T) {
	told, ends := map[string]bool{}, false
	for long := 1; long <= len(speech); long++ {
		text := speech[:long]
		want := farOnPaper(text, english(), 0)
		wantChi(t, text, english(), want, api.Fault{})
		for name, step := range otherSteps {
			told[name] = told[name] || farBy(step, text, english()) != want
		}
		ends = ends || fromTheEnd(text, english()) != want
	}
	for name := range otherSteps {
		if !told[name] {
			t.Errorf("%s: Chi is the same of all texts", name)
		}
	}
	if !ends {
		t.Error("from the end on: Chi is the same of all texts")
	}
}

func TestN3Chi(t *testing.T) {
	for _, c := range []struct {
		text string
		w    Weights
		want float64
	}{
		{speech, english(), 0x1.24ef0bc5c83e1p+5},
		{speech, ascending(), 0x1.4eb9be389e71ap+10},
		{"A", english(), 0x1.665703d8a370ap+3},
		{"Z", english(), 0x1.f380624dd2f1ap+9},
		{alphabet, english(), 0x1.e3483d4b921b4p+6},
		{"QQQ", alikeWeights(0x1p-20), 0x1.7fffd00027000p+21},
		{"THEQUICKBROWNFOX", alikeWeights(1.0 / 26), 0x1.a7ffffffffffdp+3},
	} {
		wantChi(t, c.text, c.w, c.want, api.Fault{})
	}
}

func TestN3AsOnPaper(t *testing.T) {
	r := rand.New(rand.NewSource(73))
	for range 400 {
		text := someOf(r, 1+r.Intn(300), 1+r.Intn(api.Letters))
		for _, w := range []Weights{someWeights(r), english(), ascending(), alikeWeights(1.0 / 26), alikeWeights(1 - r.Float64()/2)} {
			wantChi(t, text, w, farOnPaper(text, w, 0), api.Fault{})
		}
	}
	for range 60 {
		text, w := someOf(r, 1+r.Intn(300), 1+r.Intn(api.Letters)), someWeights(r)
		wantShift(t, text, w, leastFarOnPaper(text, w), api.Fault{})
		wantShift(t, text, english(), leastFarOnPaper(text, english()), api.Fault{})
	}
}

// With the same weight for each letter only the rounding tells one s from another.
func TestN3ShiftByRoundingAlone(t *testing.T) {
	r := rand.New(rand.NewSource(74))
	behind := 0
	for range 60 {
		text, w := someOf(r, 1+r.Intn(100), 1+r.Intn(api.Letters)), alikeWeights(1/(26+r.Float64()))
		want := leastFarOnPaper(text, w)
		if want > 0 {
			behind++
		}
		wantShift(t, text, w, want, api.Fault{})
	}
	if behind == 0 {
		t.Error("the rounding has told nothing")
	}
}

// Moved back by s is: what stands s letters further on is counted. So Shift is that s of which Chi, of the text that was moved, is the least.
func TestN3ShiftIsTheLeastChi(t *testing.T) {
	r := rand.New(rand.NewSource(75))
	for range 100 {
		text, w := someOf(r, 1+r.Intn(200), 1+r.Intn(api.Letters)), someWeights(r)
		best, least := 0, math.Inf(1)
		for s := range api.Letters {
			back, _ := tableau.Read(api.Vigenere, alphabet[s:s+1], text)
			if x, _ := Chi(back, w); x < least {
				best, least = s, x
			}
		}
		wantShift(t, text, w, best, api.Fault{})
	}
}

func TestN3ShiftReadsCaesar(t *testing.T) {
	for s := range api.Letters {
		hidden, _ := tableau.Write(api.Vigenere, alphabet[s:s+1], speech)
		wantShift(t, hidden, english(), s, api.Fault{})
	}
}

func TestN3ShiftOfAsFarOnes(t *testing.T) {
	// All are as far: each step is of whole numbers.
	for _, text := range []string{"A", "B", "Z", "AB", "YZ", "ABRACADABRA"[:8], speech[:128]} {
		wantShift(t, text, alikeWeights(0.125), 0, api.Fault{})
	}
	// Thirteen letters further on the same counts come again, whatever the weights are.
	r := rand.New(rand.NewSource(76))
	for range 50 {
		half := someOf(r, 1+r.Intn(100), 13)
		other, _ := tableau.Write(api.Vigenere, "N", half)
		w := someWeights(r)
		s, f := Shift(half+other, w)
		if s >= 13 || f != (api.Fault{}) {
			t.Errorf("Shift of %s = %d, %v; %d is as far", head(half+other), s, f, s-13)
		}
		wantShift(t, half+other, w, leastFarOnPaper(half+other, w), api.Fault{})
	}
	// Two letters are as likely: that one is taken of which s is less.
	w := alikeWeights(0x1p-10)
	w[3], w[20] = 0.5, 0.5
	wantShift(t, "X", w, 3, api.Fault{})
	wantShift(t, "D", w, 0, api.Fault{})
	wantShift(t, "U", w, 0, api.Fault{})
	wantShift(t, "E", w, 1, api.Fault{})
	wantShift(t, "V", w, 1, api.Fault{})
	wantShift(t, "A", w, 6, api.Fault{})
}

func TestN3LongestTexts(t *testing.T) {
	r := rand.New(rand.NewSource(77))
	for _, text := range []string{strings.Repeat("Z", api.MaxText), someOf(r, api.MaxText, 3), someOf(r, api.MaxText-1, api.Letters)} {
		for _, w := range []Weights{alikeWeights(0x1p-20), alikeWeights(1), english(), someWeights(r)} {
			wantChi(t, text, w, farOnPaper(text, w, 0), api.Fault{})
			wantShift(t, text, w, leastFarOnPaper(text, w), api.Fault{})
		}
	}
}

func TestN3WeightsAtTheBounds(t *testing.T) {
	for i := range api.Letters {
		for _, weight := range []float64{0x1p-20, math.Nextafter(0x1p-20, 1), math.Nextafter(1, 0), 1} {
			w := english()
			w[i] = weight
			wantChi(t, speech, w, farOnPaper(speech, w, 0), api.Fault{})
			wantShift(t, speech, w, leastFarOnPaper(speech, w), api.Fault{})
		}
	}
}

// A wrong weight is told wherever it stands, and ahead of a text that has no letters.
func TestN3WrongWeights(t *testing.T) {
	for i := range api.Letters {
		for _, weight := range wrongWeights() {
			w := english()
			w[i] = weight
			for _, text := range []string{"", "A", "Z", speech} {
				wantChi(t, text, w, 0, fault(api.ErrRange, 0))
				wantShift(t, text, w, 0, fault(api.ErrRange, 0))
			}
		}
	}
	wantChi(t, "A", Weights{}, 0, fault(api.ErrRange, 0))
	wantShift(t, "A", Weights{}, 0, fault(api.ErrRange, 0))
}

func TestN3NoLetters(t *testing.T) {
	for _, w := range []Weights{english(), alikeWeights(1), alikeWeights(0x1p-20)} {
		wantChi(t, "", w, 0, fault(api.ErrMany, 0))
		wantShift(t, "", w, 0, fault(api.ErrMany, 0))
	}
}

// What is wrong with the text is told ahead of what is wrong with the weights.
func TestN3WrongTexts(t *testing.T) {
	for _, c := range wrongTexts {
		for _, w := range []Weights{english(), {}, alikeWeights(math.NaN())} {
			wantChi(t, c.text, w, 0, c.want)
			wantShift(t, c.text, w, 0, c.want)
		}
	}
}
