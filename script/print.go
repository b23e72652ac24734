package script

import (
	"strconv"
	"strings"

	"blackroom/api"
	"blackroom/perm"
)

// Print writes a chain in words.
func Print(l []api.Step) (string, api.Fault) {
	return atEdge(func() string {
		checkChain(l)
		if len(l) == 0 {
			throw(api.ErrMany, 0)
		}
		out := make([]string, len(l))
		for place, s := range l {
			out[place] = strings.Join(wordsOf(s, place), " ")
		}
		return strings.Join(out, " "+bar+" ")
	})
}

// wordsOf are the words of a step, its name first.
func wordsOf(s api.Step, place int) []string {
	out := []string{nameOf(s)}
	switch s.Kind {
	case api.StepMove, api.StepRail:
		out = append(out, strconv.Itoa(s.N))
	case api.StepTableau, api.StepColumns:
		out = append(out, s.Key)
	case api.StepHill:
		out = append(out, matrixWords(s.Matrix)...)
	case api.StepRotor:
		out = append(out, machineWords(s.Machine, place)...)
	}
	return out
}

func matrixWords(m [][]int) []string {
	out := []string{strconv.Itoa(len(m))}
	for _, row := range m {
		for _, n := range row {
			out = append(out, strconv.Itoa(n))
		}
	}
	return out
}

func machineWords(m api.Machine, place int) []string {
	names := make([]string, len(m.Wheels))
	for i, w := range m.Wheels {
		name, err := wheelName(w)
		pass(err, place)
		names[i] = name
	}
	mirror, err := mirrorName(m.Reflector)
	pass(err, place)
	out := []string{strings.Join(names, comma), mirror, spelt(m.Rings), spelt(m.Starts)}
	if plugs, _ := perm.Print(m.Plugs); plugs != "" {
		out = append(out, plugs)
	}
	return out
}

// spelt writes the numbers of letters as letters.
func spelt(numbers []int) string {
	out := make([]byte, len(numbers))
	for i, n := range numbers {
		out[i] = letter(n)
	}
	return string(out)
}
