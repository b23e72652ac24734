package pins

import (
	"math"
	"math/rand"
	"slices"
	"strings"
	"testing"

	"blackroom/api"
)

func wantWrong(t *testing.T, d api.Drum, want api.Errno) {
	t.Helper()
	if got := Wrong(d); got != want {
		t.Errorf("Wrong(%s) = %d; want %d", told(d), got, want)
	}
}

func wantStream(t *testing.T, d api.Drum, n int, want []int, wantErr api.Errno) {
	t.Helper()
	got, err := Stream(d, n)
	if err != wantErr || !slices.Equal(got, want) || err != api.OK && got != nil {
		t.Errorf("Stream(%s, %d) = %d numbers %d, %d; want %d numbers %d, %d", told(d), n, len(got), head(got), err, len(want), head(want), wantErr)
	}
}

// head is as much of a long list as is worth telling.
func head(l []int) []int { return l[:min(len(l), 40)] }

// told is a drum as it is written in these tests.
func told(d api.Drum) string {
	var out []string
	for _, wheel := range d.Wheels {
		out = append(out, digits(wheel))
	}
	return strings.Join(out, " ") + ";" + lugs(d.Bars)
}

func digits(wheel api.Pins) string {
	out := ""
	for _, pin := range wheel {
		if pin {
			out += "1"
		} else {
			out += "0"
		}
	}
	return out
}

func lugs(bars [][2]int) string {
	out := ""
	for _, bar := range bars {
		out += " "
		for _, lug := range bar {
			out += lugName(lug)
		}
	}
	return out
}

// lugName is one sign, so that a bar is two: those behind 9 are letters.
func lugName(lug int) string {
	if lug < 0 || lug > 35 {
		return "?"
	}
	return "0123456789abcdefghijklmnopqrstuvwxyz"[lug : lug+1]
}

// drum is written in digits: of each wheel its pins, 1 if one stands out; of each bar its two lugs.
func drum(wheels, bars string) api.Drum {
	var d api.Drum
	for _, w := range strings.Fields(wheels) {
		wheel := make(api.Pins, len(w))
		for i := range wheel {
			wheel[i] = w[i] == '1'
		}
		d.Wheels = append(d.Wheels, wheel)
	}
	for _, b := range strings.Fields(bars) {
		d.Bars = append(d.Bars, [2]int{int(b[0] - '0'), int(b[1] - '0')})
	}
	return d
}

// numbers are digits, and one behind the other.
func numbers(l string) []int {
	out := make([]int, len(l))
	for i := range out {
		out[i] = int(l[i] - '0')
	}
	return out
}

// sized is a drum of wheels with so many pins each, none of which stands out.
func sized(pins ...int) api.Drum {
	d := api.Drum{Wheels: make([]api.Pins, len(pins))}
	for i, n := range pins {
		d.Wheels[i] = make(api.Pins, n)
	}
	return d
}

// someDrum is one with which nothing is wrong.
func someDrum(r *rand.Rand, wheels, pins, bars int) api.Drum {
	d := api.Drum{Wheels: make([]api.Pins, wheels), Bars: make([][2]int, bars)}
	for i := range d.Wheels {
		d.Wheels[i] = make(api.Pins, 1+r.Intn(pins))
		for j := range d.Wheels[i] {
			d.Wheels[i][j] = r.Intn(2) == 0
		}
	}
	for i := range d.Bars {
		d.Bars[i] = [2]int{r.Intn(wheels + 1), r.Intn(wheels + 1)}
	}
	return d
}

// pushedOnPaper writes below each other, wheel by wheel, what its pins say while it goes round; then a column at a time it asks each bar.
func pushedOnPaper(d api.Drum, n int) []int {
	rows := []string{strings.Repeat("0", n)} // a wheel for lugs that stand nowhere
	for _, wheel := range d.Wheels {
		rows = append(rows, strings.Repeat(digits(wheel), n/len(wheel)+1))
	}
	out := make([]int, n)
	for i := range out {
		for _, bar := range d.Bars {
			if string([]byte{rows[bar[0]][i], rows[bar[1]][i]}) != "00" {
				out[i]++
			}
		}
	}
	return out
}

func notLong() []int {
	return []int{-1, -2, math.MinInt, math.MinInt + 1, api.MaxLong + 1, api.MaxLong + 2, 1 << 32, math.MaxInt}
}

// wrongDrums are some of each error.
func wrongDrums() map[api.Errno][]api.Drum {
	bars := func(many int) api.Drum { return api.Drum{Wheels: sized(1).Wheels, Bars: make([][2]int, many)} }
	return map[api.Errno][]api.Drum{
		api.ErrMany: {
			{}, {Wheels: []api.Pins{}}, {Bars: [][2]int{{0, 0}}}, {Bars: make([][2]int, api.MaxBars+1)},
			sized(make([]int, api.MaxDrum+1)...), sized(slices.Repeat([]int{5}, api.MaxDrum+1)...), sized(slices.Repeat([]int{5}, 1000)...),
			bars(api.MaxBars + 1), bars(api.MaxBars + 2), bars(1000),
		},
		api.ErrRange: {
			sized(0), {Wheels: []api.Pins{nil}}, sized(0, 3), sized(3, 0), sized(3, 0, 3), sized(make([]int, api.MaxDrum)...),
			sized(api.MaxPins + 1), sized(api.MaxPins+1, 3), sized(3, api.MaxPins+1), sized(3, api.MaxPins+2, 3), sized(1000),
		},
		api.ErrFit: {
			{Wheels: sized(3).Wheels, Bars: [][2]int{{2, 0}}}, {Wheels: sized(3).Wheels, Bars: [][2]int{{0, 2}}},
			{Wheels: sized(3).Wheels, Bars: [][2]int{{-1, 0}}}, {Wheels: sized(3).Wheels, Bars: [][2]int{{1, -1}}},
		},
	}
}

func TestW1NothingIsWrong(t *testing.T) {
	for wheels := 1; wheels <= api.MaxDrum; wheels++ {
		for _, pins := range []int{1, 2, api.MaxPins - 1, api.MaxPins} {
			d := sized(slices.Repeat([]int{pins}, wheels)...)
			wantWrong(t, d, api.OK)
			for lug := range wheels + 1 {
				d.Bars = [][2]int{{lug, 0}, {0, lug}, {lug, lug}, {wheels, lug}}
				wantWrong(t, d, api.OK)
			}
			for _, bars := range []int{1, api.MaxBars - 1, api.MaxBars} {
				d.Bars = slices.Repeat([][2]int{{1, wheels}}, bars)
				wantWrong(t, d, api.OK)
			}
		}
	}
}

func TestW1Wrong(t *testing.T) {
	for err, drums := range wrongDrums() {
		for _, d := range drums {
			wantWrong(t, d, err)
		}
	}
}

func TestW1HowManyWheels(t *testing.T) {
	for wheels := range 3 * api.MaxDrum {
		want := api.OK
		if wheels < 1 || wheels > 12 {
			want = api.ErrMany
		}
		wantWrong(t, sized(slices.Repeat([]int{4}, wheels)...), want)
	}
}

func TestW1HowManyBars(t *testing.T) {
	for bars := range 3 * api.MaxBars {
		want := api.OK
		if bars > 27 {
			want = api.ErrMany
		}
		wantWrong(t, api.Drum{Wheels: sized(4, 5).Wheels, Bars: slices.Repeat([][2]int{{2, 1}}, bars)}, want)
	}
}

func TestW1HowManyPins(t *testing.T) {
	for pins := range 3 * api.MaxPins {
		want := api.OK
		if pins < 1 || pins > 47 {
			want = api.ErrRange
		}
		for wheels := 1; wheels <= api.MaxDrum; wheels++ {
			for at := range wheels {
				sizes := slices.Repeat([]int{7}, wheels)
				sizes[at] = pins
				wantWrong(t, sized(sizes...), want)
			}
		}
	}
}

func TestW1LugsThatStandAtNoWheel(t *testing.T) {
	for wheels := 1; wheels <= api.MaxDrum; wheels++ {
		for _, bars := range []int{1, 2, api.MaxBars} {
			for at := range 2 * bars {
				for _, lug := range []int{-1, -2, wheels + 1, wheels + 2, 255, 256, 257, 1 << 32, 1<<32 + 1, -1 << 32, math.MaxInt, math.MinInt, math.MinInt + 1} {
					d := sized(slices.Repeat([]int{2}, wheels)...)
					d.Bars = slices.Repeat([][2]int{{wheels, 0}}, bars)
					d.Bars[at/2][at%2] = lug
					wantWrong(t, d, api.ErrFit)
				}
			}
		}
	}
}

// Too many or too few are told ahead of pins, those ahead of lugs, wherever they stand.
func TestW1WhichErrorIsToldFirst(t *testing.T) {
	badLugs := slices.Repeat([][2]int{{-1, 99}}, api.MaxBars+1)
	for _, pins := range []int{0, 4, api.MaxPins + 1} {
		wantWrong(t, api.Drum{Wheels: sized(pins, pins).Wheels, Bars: badLugs}, api.ErrMany)
		wantWrong(t, api.Drum{Wheels: sized(slices.Repeat([]int{pins}, api.MaxDrum+1)...).Wheels, Bars: badLugs[:1]}, api.ErrMany)
	}
	wantWrong(t, api.Drum{Bars: badLugs[:1]}, api.ErrMany)
	wantWrong(t, api.Drum{Wheels: sized(4, 4, 0).Wheels, Bars: badLugs[1:]}, api.ErrRange)
	wantWrong(t, api.Drum{Wheels: sized(4, 4, api.MaxPins+1).Wheels, Bars: badLugs[1:]}, api.ErrRange)
	wantWrong(t, api.Drum{Wheels: sized(4, 4, 4).Wheels, Bars: badLugs[1:]}, api.ErrFit)
}

func TestW1StreamByHand(t *testing.T) {
	for _, c := range []struct{ wheels, bars, want string }{
		{"10", "10", "1010101"},
		{"10", "01", "1010101"},
		{"10", "11", "1010101"}, // both lugs of a bar stand there: it is pushed once
		{"10", "10 10", "2020202"},
		{"10", "00", "0000000"}, // lugs that stand nowhere
		{"10", "", "0000000"},
		{"1", "10", "1111111"},
		{"0", "10", "0000000"},
		{"100", "10", "1001001"},
		{"001", "10", "0010010"},
		{"110 10", "10", "1101101"},
		{"110 10", "20", "1010101"},
		{"110 10", "12", "1111101"}, // one pin that stands out is enough, and two push it once
		{"110 10", "21", "1111101"},
		{"110 10", "10 20", "2111202"}, // two bars
		{"110 10", "10 12 20 00", "3222303"},
		{"101 01", "10 12 00 22", "222303222"},
		{"10 100 1000", "12 23 31", "302230303"},
		{"1 0 0", "30 20 10", "1111"},
		{"0 0 1", "30 20 10", "1111"},
		{"0 1 0", "13 31 12", "1111"},
	} {
		want := numbers(c.want)
		for n := range len(want) + 1 {
			wantStream(t, drum(c.wheels, c.bars), n, want[:n], api.OK)
		}
		if paper := pushedOnPaper(drum(c.wheels, c.bars), len(want)); !slices.Equal(paper, want) {
			t.Errorf("%s; %s: on paper it is %d", c.wheels, c.bars, paper)
		}
	}
}

func TestW1StreamAsOnPaper(t *testing.T) {
	r := rand.New(rand.NewSource(121))
	for range 3000 {
		d, n := someDrum(r, 1+r.Intn(api.MaxDrum), 1+r.Intn(api.MaxPins), r.Intn(api.MaxBars+1)), r.Intn(200)
		wantStream(t, d, n, pushedOnPaper(d, n), api.OK)
	}
}

func TestW1LongestStreams(t *testing.T) {
	r := rand.New(rand.NewSource(122))
	for range 5 {
		d := someDrum(r, api.MaxDrum, api.MaxPins, api.MaxBars)
		for _, n := range []int{api.MaxLong, api.MaxLong - 1} {
			wantStream(t, d, n, pushedOnPaper(d, n), api.OK)
		}
	}
	all := api.Drum{Wheels: drum("1", "").Wheels, Bars: slices.Repeat([][2]int{{1, 1}}, api.MaxBars)}
	wantStream(t, all, api.MaxLong, slices.Repeat([]int{api.MaxBars}, api.MaxLong), api.OK)
}

// Each pin of each wheel by itself, while all others do not stand out: it is looked at once a turn.
func TestW1EachPin(t *testing.T) {
	sizes := []int{26, 25, 23, 21, 19, 17, api.MaxPins, 1}
	for at, pins := range sizes {
		for pin := range pins {
			d := sized(sizes...)
			d.Wheels[at][pin] = true
			for other := range sizes {
				d.Bars = append(d.Bars, [2]int{other + 1, 0})
			}
			want := make([]int, 2*pins)
			want[pin], want[pin+pins] = 1, 1
			wantStream(t, d, 2*pins, want, api.OK)
		}
	}
}

func TestW1StreamOfNumbersThatAreWrong(t *testing.T) {
	for _, n := range notLong() {
		wantStream(t, drum("101 01", "10 12"), n, nil, api.ErrRange)
		wantStream(t, drum("1", ""), n, nil, api.ErrRange)
	}
}

// What is wrong with a drum is told ahead of a wrong number, and even where nothing is asked for.
func TestW1StreamOfWrongDrums(t *testing.T) {
	for err, drums := range wrongDrums() {
		for _, d := range drums {
			for _, n := range append([]int{0, 1, 9, api.MaxLong}, notLong()...) {
				wantStream(t, d, n, nil, err)
			}
		}
	}
}

// roomy is the same drum with spare room behind all lists, in which other things stand.
func roomy(d api.Drum) api.Drum {
	wheels := make([]api.Pins, 0, len(d.Wheels)+2)
	for _, wheel := range d.Wheels {
		wheels = append(wheels, append(slices.Clone(wheel), true, false, true)[:len(wheel)])
	}
	wheels = append(wheels, api.Pins{true}, nil)
	return api.Drum{Wheels: wheels[:len(d.Wheels)], Bars: append(slices.Clone(d.Bars), [2]int{1, 1}, [2]int{-1, 99})[:len(d.Bars)]}
}

// whole is all that a drum's lists hold, their spare room too.
func whole(d api.Drum) string {
	out := api.Drum{Bars: d.Bars[:cap(d.Bars)]}
	for _, wheel := range d.Wheels[:cap(d.Wheels)] {
		out.Wheels = append(out.Wheels, wheel[:cap(wheel)])
	}
	return told(out)
}

// spoil writes over all that a drum's lists hold.
func spoil(d api.Drum) {
	wheels, bars := d.Wheels[:cap(d.Wheels)], d.Bars[:cap(d.Bars)]
	for i := range wheels {
		for j, pin := range wheels[i] {
			wheels[i][j] = !pin
		}
		wheels[i] = nil
	}
	for i := range bars {
		bars[i] = [2]int{-7, -7}
	}
}

// kinds are drums that are right, and one of each error.
func kinds() []api.Drum {
	out := []api.Drum{drum("101 01", "10 12 00 22"), drum("1", ""), drum("10", "11")}
	for _, drums := range wrongDrums() {
		out = append(out, drums...)
	}
	return out
}

func TestE2DrumsAreOnlyRead(t *testing.T) {
	for _, c := range kinds() {
		d := roomy(c)
		all := whole(d)
		wantWrong(t, d, Wrong(c))
		want, wantErr := Stream(c, 9)
		got, err := Stream(d, 9)
		written, fault := Write(d, "ATTACK")
		cycle, cycleErr := Cycle(d)
		if whole(d) != all {
			t.Errorf("what was handed in became %s; it was %s", whole(d), all)
		}
		spoil(d)
		if err != wantErr || !slices.Equal(got, want) {
			t.Errorf("Stream = %d, %d with room behind; want %d, %d", got, err, want, wantErr)
		}
		wantWrite(t, c, "ATTACK", written, fault)
		wantCycle(t, c, cycle, cycleErr)
	}
}

func TestE2StreamIsNewEachTime(t *testing.T) {
	d := drum("101 01", "10 12 00 22")
	for _, n := range []int{0, 1, 9} {
		got, _ := Stream(d, n)
		got = got[:cap(got)]
		for i := range got {
			got[i] = 99
		}
		wantStream(t, d, n, numbers("222303222")[:n], api.OK)
	}
}

// Wheels may lie in one list: each is only as long as it says.
func TestE2OneWheelTwice(t *testing.T) {
	wheel := drum("110", "").Wheels[0]
	d := api.Drum{Wheels: []api.Pins{wheel, wheel[1:], wheel[:2]}, Bars: [][2]int{{1, 0}, {2, 0}, {3, 0}}}
	wantStream(t, d, 6, pushedOnPaper(drum("110 10 11", "10 20 30"), 6), api.OK)
}

func TestE3DrumsOfNothing(t *testing.T) {
	for _, wheels := range [][]api.Pins{nil, {}, make([]api.Pins, 0, 3)} {
		for _, bars := range [][][2]int{nil, {}, make([][2]int, 0, 3)} {
			wantWrong(t, api.Drum{Wheels: wheels, Bars: bars}, api.ErrMany)
			wantStream(t, api.Drum{Wheels: drum("10", "").Wheels, Bars: bars}, 3, []int{0, 0, 0}, api.OK)
			wantStream(t, api.Drum{Wheels: drum("10", "").Wheels, Bars: bars}, 0, nil, api.OK)
			wantWrite(t, api.Drum{Wheels: drum("10", "").Wheels, Bars: bars}, "ABZ", "ZYA", api.Fault{})
		}
	}
	for _, wheel := range []api.Pins{nil, {}, make(api.Pins, 0, 3)} {
		wantWrong(t, api.Drum{Wheels: []api.Pins{wheel}}, api.ErrRange)
		wantWrong(t, api.Drum{Wheels: []api.Pins{{true}, wheel}}, api.ErrRange)
	}
}
