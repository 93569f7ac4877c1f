package tests

import (
	"fmt"
	"math"
	"slices"
	"strings"
	"testing"

	"loop.example/g01207/impl"
)

// wildBoards returns boards and what is none.
func wildBoards() []string {
	return []string{
		".", "#", "..", ".../.#.", floorBoard(1, 7), floorBoard(7, 1), floorBoard(6, 6), floorBoard(7, 5), "##/##",
		"", "/", "./", "/.", "../.", "./..", ".x", "x", "\xff", "·", "./\xff.", floorBoard(8, 1), floorBoard(1, 8), floorBoard(7, 6), floorBoard(100, 100), strings.Repeat("/", 5000), "123456", "nesw",
	}
}

// wildStates returns states on some boards and what is none on any.
func wildStates() []impl.State {
	var states []impl.State
	numbers := []int{math.MinInt, -1, 0, 1, 6, 7, math.MaxInt - 1, math.MaxInt}
	for _, d := range []impl.Die{die("123456"), die("413652"), die("000000"), die("112345"), dieOf([]int{-1, 2, 3, 4, 5, 6}), dieOf([]int{1, 2, 3, 4, 5, 10}), dieOf([]int{math.MaxInt, math.MinInt, 3, 4, 5, 6})} {
		for i, x := range numbers {
			states = append(states, impl.State{X: x, Y: x, Die: d}, impl.State{X: x, Y: 0, Die: d}, impl.State{X: x, Y: numbers[len(numbers)-1-i], Die: d})
		}
	}
	return states
}

// wildWalks returns words, directions, and what is none of these.
func wildWalks() []string {
	return []string{"", "n", "e", "s", "w", "ees", "nesw", "ns", longWord(60), strings.Repeat("es", 30), strings.Repeat("es", 31), longWord(61), "x", "ex", "N", "\x00", "\xff", "ü", ".", strings.Repeat("n", 5000)}
}

// outcomesOfBoard calls each function whose argument is a board, or a board and a cell.
func outcomesOfBoard(t *testing.T, b string) []string {
	what := fmt.Sprintf("%.60q", b)
	out := []string{
		outcome(t, "IsBoard "+what, alone(func() bool { return impl.IsBoard(b) })),
		outcome(t, "BoardSize "+what, func() (place, bool) { x, y, ok := impl.BoardSize(b); return place{x, y}, ok }),
		outcome(t, "CountFloor "+what, func() (int, bool) { return impl.CountFloor(b) }),
		outcome(t, "TurnBoard "+what, func() (string, bool) { return impl.TurnBoard(b) }),
	}
	for _, x := range wildNumbers {
		for _, y := range wildNumbers {
			out = append(out, outcome(t, fmt.Sprint("IsFloor ", what, x, y), func() (bool, bool) { return impl.IsFloor(b, x, y) }))
		}
	}
	return out
}

// outcomesOfState calls each function whose arguments are a board and a state.
func outcomesOfState(t *testing.T, b string, s impl.State) []string {
	what := fmt.Sprintf("%.60q %v", b, s)
	return []string{
		outcome(t, "IsState "+what, func() (bool, bool) { return impl.IsState(b, s) }),
		outcome(t, "CanRoll "+what, func() (string, bool) { return impl.CanRoll(b, s) }),
		outcome(t, "TurnState "+what, func() (impl.State, bool) { return impl.TurnState(b, s) }),
	}
}

// outcomesOfWalk calls each function whose arguments are a board, a state and a word or a direction.
func outcomesOfWalk(t *testing.T, b string, s impl.State, word string) []string {
	what := fmt.Sprintf("%.60q %v %.80q", b, s, word)
	return []string{
		outcome(t, "RollState "+what, func() (impl.State, bool) { return impl.RollState(b, s, word) }),
		outcome(t, "RollAlong "+what, func() (impl.State, bool) { return impl.RollAlong(b, s, word) }),
		outcome(t, "TopsAlong "+what, func() ([]int, bool) { return impl.TopsAlong(b, s, word) }),
		outcome(t, "SumOfTops "+what, func() (int, bool) { return impl.SumOfTops(b, s, word) }),
		outcome(t, "StatesAlong "+what, func() ([]impl.State, bool) { return impl.StatesAlong(b, s, word) }),
		outcome(t, "FirstStop "+what, func() (int, bool) { return impl.FirstStop(b, s, word) }),
	}
}

// outcomesOfWay calls each function whose argument is a word alone.
func outcomesOfWay(t *testing.T, word string) []string {
	what := fmt.Sprintf("%.80q", word)
	return []string{
		outcome(t, "IsClosedWay "+what, func() (bool, bool) { return impl.IsClosedWay(word) }),
		outcome(t, "TurnOfWay "+what, func() (string, bool) { return impl.TurnOfWay(word) }),
		outcome(t, "TurnRolls "+what, func() (string, bool) { return impl.TurnRolls(word) }),
	}
}

// outcomesOfParity calls each function whose arguments are a die and another one or a state.
func outcomesOfParity(t *testing.T) []string {
	var out []string
	for _, d := range wildDice() {
		for _, e := range wildDice() {
			out = append(out, outcome(t, fmt.Sprint("IsEvenDie ", d, e), func() (bool, bool) { return impl.IsEvenDie(d, e) }))
		}
		for _, s := range wildStates() {
			out = append(out, outcome(t, fmt.Sprint("ParityOfState ", s, d), func() (int, bool) { return impl.ParityOfState(s, d) }))
		}
	}
	return out
}

// allBoardOutcomes calls all nineteen functions of boards with all wild arguments.
func allBoardOutcomes(t *testing.T) []string {
	out := outcomesOfParity(t)
	for _, b := range append(wildBoards(), wildTexts()...) {
		out = append(out, outcomesOfBoard(t, b)...)
	}
	for _, b := range wildBoards() {
		for _, s := range wildStates() {
			out = append(out, outcomesOfState(t, b, s)...)
			for _, word := range wildWalks() {
				out = append(out, outcomesOfWalk(t, b, s, word)...)
			}
		}
	}
	for _, word := range append(wildWalks(), wildTexts()...) {
		out = append(out, outcomesOfWay(t, word)...)
	}
	return out
}

func TestPromise11BoardsAllArguments(t *testing.T) {
	expectSameOutcomes(t, allBoardOutcomes)
}

func TestPromise11BoardsArgumentsAreKept(t *testing.T) {
	boards, states, words := wildBoards(), wildStates(), wildWalks()
	for i, s := range states {
		b, word := boards[i%len(boards)], words[i%len(words)]
		keptBoard, keptState, keptWord := strings.Clone(b), s, strings.Clone(word)
		outcomesOfBoard(t, b)
		outcomesOfState(t, b, s)
		outcomesOfWalk(t, b, s, word)
		outcomesOfWay(t, word)
		if b != keptBoard || s != keptState || word != keptWord {
			t.Errorf("an argument was modified: %q %v %q", b, s, word)
		}
	}
}

// expectNew checks that changing a result, and what an append to a part of it writes, changes no other one.
func expectNew[T comparable](t *testing.T, what string, call func() ([]T, bool)) {
	t.Helper()
	want, _ := call()
	want = slices.Clone(want)
	first, _ := call()
	second, ok := call()
	var zero T
	for i := range first {
		first[i] = zero
	}
	_ = append(first, zero, zero)
	_ = append(first[:0], zero)
	if !ok || len(want) == 0 || !slices.Equal(second, want) {
		t.Errorf("two results of %s share memory", what)
	}
	if third, ok := call(); !ok || !slices.Equal(third, want) {
		t.Errorf("a changed result of %s changes a later one", what)
	}
}

func TestPromise11BoardsResultsAreNew(t *testing.T) {
	for _, word := range []string{"", "ees", strings.Repeat("ew", 30)} {
		expectNew(t, "TopsAlong "+word, func() ([]int, bool) { return impl.TopsAlong(".../.#.", state(0, 0, "123456"), word) })
		expectNew(t, "StatesAlong "+word, func() ([]impl.State, bool) { return impl.StatesAlong(".../.#.", state(0, 0, "123456"), word) })
	}
}
