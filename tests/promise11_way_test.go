package tests

import (
	"fmt"
	"math"
	"strings"
	"testing"

	"loop.example/g01207/impl"
)

// farResult is a state and its distance, or a word and its cost.
type farResult struct {
	what  any
	count int
}

// wayBoards returns boards and what is none.
func wayBoards() []string {
	return []string{
		".", "#", "..", "../..", ".../.#.", "..../#..#/....", ".#.#.", floorBoard(5, 5), longBoard,
		"", "/", "./", "../.", ".x", "x", "\xff", "·", floorBoard(8, 1), floorBoard(7, 6), floorBoard(100, 100), strings.Repeat("/", 5000),
	}
}

// wayStates returns states on some boards, and what is none on any.
func wayStates() []impl.State {
	var states []impl.State
	for _, d := range []impl.Die{die("123456"), die("000000"), die("900009"), die("112345"), {Top: -1}, {Bottom: 10}, {Top: math.MaxInt, Bottom: math.MinInt}} {
		for _, at := range []place{{0, 0}, {1, 0}, {0, 1}, {2, 1}, {-1, 0}, {0, 7}, {math.MinInt, math.MaxInt}, {math.MaxInt, 0}} {
			states = append(states, impl.State{X: at.x, Y: at.y, Die: d})
		}
	}
	return states
}

// outcomesOfReach calls each function whose arguments are a board and a state.
func outcomesOfReach(t *testing.T, b string, s impl.State) []string {
	what := fmt.Sprintf("%.60q %v", b, s)
	return []string{
		outcome(t, "CountReached "+what, func() (int, bool) { return impl.CountReached(b, s) }),
		outcome(t, "LayersOf "+what, func() ([]int, bool) { return impl.LayersOf(b, s) }),
		outcome(t, "FarthestState "+what, func() (farResult, bool) {
			state, distance, ok := impl.FarthestState(b, s)
			return farResult{state, distance}, ok
		}),
	}
}

// outcomesOfTarget calls each function whose arguments are a board and two states.
func outcomesOfTarget(t *testing.T, b string, s impl.State, target impl.State) []string {
	what := fmt.Sprintf("%.60q %v %v", b, s, target)
	return []string{
		outcome(t, "IsReached "+what, func() (bool, bool) { return impl.IsReached(b, s, target) }),
		outcome(t, "DistanceTo "+what, func() (int, bool) { return impl.DistanceTo(b, s, target) }),
		outcome(t, "ShortestWay "+what, func() (string, bool) { return impl.ShortestWay(b, s, target) }),
		outcome(t, "CountShortest "+what, func() (int, bool) { return impl.CountShortest(b, s, target) }),
		outcome(t, "LeastSum "+what, func() (int, bool) { return impl.LeastSum(b, s, target) }),
	}
}

// outcomesOfCell calls each function whose arguments are a board, a state and a cell, perhaps with a top.
func outcomesOfCell(t *testing.T, b string, s impl.State, at place) []string {
	what := fmt.Sprintf("%.60q %v %v", b, s, at)
	out := []string{
		outcome(t, "WayToCell "+what, func() (string, bool) { return impl.WayToCell(b, s, at.x, at.y) }),
		outcome(t, "DiceAt "+what, func() ([]impl.Die, bool) { return impl.DiceAt(b, s, at.x, at.y) }),
		outcome(t, "TopsAt "+what, func() ([]int, bool) { return impl.TopsAt(b, s, at.x, at.y) }),
		outcome(t, "CheapestWay "+what, func() (farResult, bool) {
			word, cost, ok := impl.CheapestWay(b, s, at.x, at.y)
			return farResult{word, cost}, ok
		}),
	}
	for _, top := range []int{math.MinInt, -1, 0, 1, 9, 10, math.MaxInt} {
		out = append(out, outcome(t, fmt.Sprint("WayToTop ", what, top), func() (string, bool) { return impl.WayToTop(b, s, at.x, at.y, top) }))
	}
	return out
}

// allWayOutcomes calls all thirteen functions of ways with all wild arguments.
func allWayOutcomes(t *testing.T) []string {
	var out []string
	numbers := []int{math.MinInt, -1, 0, 1, 4, 6, 7, math.MaxInt}
	for _, b := range wayBoards() {
		for i, s := range wayStates() {
			out = append(out, outcomesOfReach(t, b, s)...)
			for k, target := range wayStates() {
				if (i+k)%7 < 2 {
					out = append(out, outcomesOfTarget(t, b, s, target)...)
				}
			}
			for k, x := range numbers {
				out = append(out, outcomesOfCell(t, b, s, place{x, x})...)
				out = append(out, outcomesOfCell(t, b, s, place{x, numbers[len(numbers)-1-k]})...)
				out = append(out, outcomesOfCell(t, b, s, place{0, x})...)
			}
		}
	}
	return out
}

// The outcomes do not change from call to call, although a map is ranged over in another order each time.
func TestPromise11WaysAllArguments(t *testing.T) {
	expectSameOutcomes(t, allWayOutcomes)
}

func TestPromise11WaysArgumentsAreKept(t *testing.T) {
	boards, states := wayBoards(), wayStates()
	for i, s := range states {
		b, target := boards[i%len(boards)], states[len(states)-1-i]
		keptBoard, keptState, keptTarget := strings.Clone(b), s, target
		outcomesOfReach(t, b, s)
		outcomesOfTarget(t, b, s, target)
		outcomesOfCell(t, b, s, place{target.X, target.Y})
		if b != keptBoard || s != keptState || target != keptTarget {
			t.Errorf("an argument was modified: %q %v %v", b, s, target)
		}
	}
}

func TestPromise11WaysResultsAreNew(t *testing.T) {
	for _, b := range []string{".", "../..", floorBoard(6, 6)} {
		expectNew(t, "DiceAt "+b, func() ([]impl.Die, bool) { return impl.DiceAt(b, state(0, 0, "123456"), 0, 0) })
		expectNew(t, "TopsAt "+b, func() ([]int, bool) { return impl.TopsAt(b, state(0, 0, "123456"), 0, 0) })
		expectNew(t, "LayersOf "+b, func() ([]int, bool) { return impl.LayersOf(b, state(0, 0, "123456")) })
	}
}
