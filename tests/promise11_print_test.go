package tests

import (
	"fmt"
	"math"
	"strings"
	"testing"

	"loop.example/g01207/impl"
)

// printBoards returns boards, labelled boards, and what is neither.
func printBoards() []string {
	return []string{
		".", "#", "..", ".../.#.", "0", "9", "1.", "156/.#.", "00/00", "000/000/000", "0000/0000/0000", "15/#2", floorBoard(6, 6), "1" + floorBoard(6, 6)[1:], strings.ReplaceAll(floorBoard(6, 6), ".", "0"),
		"", "/", "1/", "/1", "12/3", "1x", "x", "-1", "\xff", "1\xff", "１", "·", strings.Repeat("1", 8), strings.ReplaceAll(floorBoard(7, 6), ".", "5"), floorBoard(100, 100), strings.Repeat("1/", 5000), strings.Repeat("/", 5000),
	}
}

// printStates returns states on some boards, and what is none on any: also dice with tops whose last byte is a sign of a board.
func printStates() []impl.State {
	var states []impl.State
	for _, d := range []impl.Die{die("123456"), die("000000"), die("987654"), {Top: -1}, {Top: '#' - '0'}, {Top: '.' - '0'}, {Top: 257}, {Bottom: 10}, {Bottom: -1}, {Bottom: math.MinInt}, {Top: math.MaxInt, Bottom: math.MaxInt}} {
		for _, at := range []place{{0, 0}, {1, 0}, {0, 1}, {2, 1}, {-1, 0}, {0, 7}, {math.MinInt, math.MaxInt}, {math.MaxInt, 0}} {
			states = append(states, impl.State{X: at.x, Y: at.y, Die: d})
		}
	}
	return states
}

// outcomesOfLabelled calls each function whose argument is a board alone.
func outcomesOfLabelled(t *testing.T, b string) []string {
	what := fmt.Sprintf("%.60q", b)
	return []string{
		outcome(t, "IsLabelled "+what, alone(func() bool { return impl.IsLabelled(b) })),
		outcome(t, "FloorOfLabels "+what, func() (string, bool) { return impl.FloorOfLabels(b) }),
		outcome(t, "CountLabels "+what, func() (int, bool) { return impl.CountLabels(b) }),
		outcome(t, "TurnLabelled "+what, func() (string, bool) { return impl.TurnLabelled(b) }),
	}
}

// outcomesOverLabels calls each function whose arguments are a labelled board and a state, or a die.
func outcomesOverLabels(t *testing.T, b string, s impl.State) []string {
	what := fmt.Sprintf("%.60q %v", b, s)
	return []string{
		outcome(t, "MatchesHere "+what, func() (bool, bool) { return impl.MatchesHere(b, s) }),
		outcome(t, "LabelMoves "+what, func() (string, bool) { return impl.LabelMoves(b, s) }),
		outcome(t, "CountOverLabels "+what, func() (int, bool) { return impl.CountOverLabels(b, s) }),
		outcome(t, "TourOf "+what, func() (string, bool) { return impl.TourOf(b, s) }),
		outcome(t, "CountTours "+what, func() (int, bool) { return impl.CountTours(b, s) }),
		outcome(t, "StartsOfLabels "+what, func() ([]impl.State, bool) { return impl.StartsOfLabels(b, s.Die) }),
	}
}

// outcomesOfPrints calls each function whose arguments are a board, a state and a word.
func outcomesOfPrints(t *testing.T, b string, s impl.State, word string) []string {
	what := fmt.Sprintf("%.60q %v %.80q", b, s, word)
	return []string{
		outcome(t, "PrintsAlong "+what, func() (string, bool) { return impl.PrintsAlong(b, s, word) }),
		outcome(t, "PrintCounts "+what, func() ([]int, bool) { return impl.PrintCounts(b, s, word) }),
		outcome(t, "LabelsOfWord "+what, func() (string, bool) { return impl.LabelsOfWord(b, s, word) }),
		outcome(t, "RollOverLabels "+what, func() (impl.State, bool) { return impl.RollOverLabels(b, s, word) }),
	}
}

// outcomesOfLabelledCell calls the function whose arguments are a labelled board, a state and a cell.
func outcomesOfLabelledCell(t *testing.T, b string, s impl.State) []string {
	var out []string
	numbers := []int{math.MinInt, -1, 0, 1, 5, 7, math.MaxInt}
	for i, x := range numbers {
		for _, y := range []int{0, x, numbers[len(numbers)-1-i]} {
			out = append(out, outcome(t, fmt.Sprintf("WayOverLabels %.60q %v %d %d", b, s, x, y), func() (string, bool) { return impl.WayOverLabels(b, s, x, y) }))
		}
	}
	return out
}

// allPrintOutcomes calls all fifteen functions of prints with all wild arguments.
func allPrintOutcomes(t *testing.T) []string {
	var out []string
	for _, b := range append(printBoards(), wildTexts()...) {
		out = append(out, outcomesOfLabelled(t, b)...)
	}
	for _, b := range printBoards() {
		for _, s := range printStates() {
			out = append(out, outcomesOverLabels(t, b, s)...)
			out = append(out, outcomesOfLabelledCell(t, b, s)...)
			for _, word := range wildWalks() {
				out = append(out, outcomesOfPrints(t, b, s, word)...)
			}
		}
	}
	return out
}

func TestPromise11PrintsAllArguments(t *testing.T) {
	expectSameOutcomes(t, allPrintOutcomes)
}

func TestPromise11PrintsArgumentsAreKept(t *testing.T) {
	boards, states, words := printBoards(), printStates(), wildWalks()
	for i, s := range states {
		for k, b := range boards {
			word := words[(i+k)%len(words)]
			keptBoard, keptState, keptWord := strings.Clone(b), s, strings.Clone(word)
			outcomesOfLabelled(t, b)
			outcomesOverLabels(t, b, s)
			outcomesOfPrints(t, b, s, word)
			if b != keptBoard || s != keptState || word != keptWord {
				t.Errorf("an argument was modified: %q %v %q", b, s, word)
			}
		}
	}
}

func TestPromise11PrintsResultsAreNew(t *testing.T) {
	for _, word := range []string{"", "ees", strings.Repeat("ew", 30)} {
		expectNew(t, "PrintCounts "+word, func() ([]int, bool) { return impl.PrintCounts(".../.#.", state(0, 0, "123456"), word) })
	}
	for _, b := range []string{"1", "156/.#.", "15/.."} {
		expectNew(t, "StartsOfLabels "+b, func() ([]impl.State, bool) { return impl.StartsOfLabels(b, die("123456")) })
	}
}
