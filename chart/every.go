package chart

import (
	"slices"

	"blackroom/api"
	"blackroom/rotor"
)

// Every is what look tells of m, whatever letters stand in its windows, where it tells true. What is found is kept by the letter in the first window, which one hand alone looks at: so it stands in the same order however many hands there are.
func Every[T any](m api.Machine, hands int, look func(m api.Machine) (T, bool)) ([]T, api.Errno) {
	if err := searchWrong(m, hands); err != api.OK {
		return nil, err
	}
	// Nobody looks: nothing is found.
	if look == nil {
		return nil, api.OK
	}
	var found [api.Letters][]T
	firsts, done := make(chan int), make(chan bool)
	for range hands {
		go func() {
			for first := range firsts {
				found[first] = behind(m, first, look)
			}
			done <- true
		}()
	}
	for first := range api.Letters {
		firsts <- first
	}
	close(firsts)
	for range hands {
		<-done
	}
	var out []T
	for _, l := range found {
		out = append(out, l...)
	}
	return out, api.OK
}

func searchWrong(m api.Machine, hands int) api.Errno {
	if err := rotor.Wrong(m); err != api.OK {
		return err
	}
	if len(m.Wheels) > api.MaxFound {
		return api.ErrMuch
	}
	if hands < 1 || hands > api.MaxHands {
		return api.ErrRange
	}
	return api.OK
}

// behind is what is found with one letter in the first window, and all others behind it.
func behind[T any](m api.Machine, first int, look func(m api.Machine) (T, bool)) []T {
	wheels, many := len(m.Wheels), 1
	for range wheels - 1 {
		many *= api.Letters
	}
	var out []T
	for n := range many {
		if x, ok := look(standing(m, windows(wheels, first*many+n))); ok {
			out = append(out, x)
		}
	}
	return out
}

// windows are the letters that come n-th in so many windows: the last window's change with each n.
func windows(many, n int) []int {
	out := make([]int, many)
	for i := many - 1; i >= 0; i-- {
		out[i] = n % api.Letters
		n /= api.Letters
	}
	return out
}

// standing is m with these letters in its windows. It has its own lists: whatever look keeps of it, or tells, is shared with nobody.
func standing(m api.Machine, starts []int) api.Machine {
	out := m
	out.Starts = starts
	out.Rings = slices.Clone(m.Rings)
	out.Wheels = slices.Clone(m.Wheels)
	for i, w := range m.Wheels {
		out.Wheels[i].Notches = slices.Clone(w.Notches)
	}
	return out
}

// Find is which letters may have stood in the windows, by the types of the chart.
func Find(m api.Machine, types [3][]int, hands int) ([][]int, api.Errno) {
	return Every(m, hands, func(m api.Machine) ([]int, bool) {
		// Every looks at right machines alone.
		told, _ := Types(m)
		return m.Starts, alike(told, types)
	})
}

func alike(a, b [3][]int) bool {
	for i, l := range a {
		if !slices.Equal(l, b[i]) {
			return false
		}
	}
	return true
}
