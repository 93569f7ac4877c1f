package tests

import (
	"fmt"
	"math"
	"strings"
	"testing"

	"loop.example/g01207/impl"
)

// boxGrounds returns grounds and what is none.
func boxGrounds() []string {
	return []string{
		".", "#", "-", "o", "..", "...o", "....o", "-o-/...", "../../..", ".../.#.", "--/--", floorBoard(5, 5), floorBoard(1, 7), floorBoard(7, 5), farLand,
		"", "/", "-/", "/o", "../.", "oo", ".x", "x", "0", "\xff", "·", floorBoard(8, 1), floorBoard(7, 6), floorBoard(100, 100), strings.Repeat("/", 5000), strings.Repeat("o", 5000),
	}
}

// wildBoxes returns boxes on some grounds, and what is none on any.
func wildBoxes() []impl.Box {
	var boxes []impl.Box
	numbers := []int{math.MinInt, -1, 0, 1, 2, 6, 7, math.MaxInt - 1, math.MaxInt}
	for i, x := range numbers {
		for _, pose := range []int{impl.PoseUp, impl.PoseEast, impl.PoseSouth, x} {
			boxes = append(boxes, impl.Box{X: x, Y: x, Pose: pose}, impl.Box{X: x, Pose: pose}, impl.Box{Y: x, Pose: pose}, impl.Box{X: x, Y: numbers[len(numbers)-1-i], Pose: pose})
		}
	}
	return boxes
}

// outcomesOfGround calls each function whose argument is one text.
func outcomesOfGround(t *testing.T, b string) []string {
	what := fmt.Sprintf("%.60q", b)
	return []string{
		outcome(t, "IsGround "+what, alone(func() bool { return impl.IsGround(b) })),
		outcome(t, "PlacesOnGround "+what, func() (int, bool) { return impl.PlacesOnGround(b) }),
		outcome(t, "TurnGround "+what, func() (string, bool) { return impl.TurnGround(b) }),
	}
}

// outcomesOfBox calls each function whose arguments are a ground and a box.
func outcomesOfBox(t *testing.T, b string, x impl.Box) []string {
	what := fmt.Sprintf("%.60q %v", b, x)
	return []string{
		outcome(t, "IsBox "+what, func() (bool, bool) { return impl.IsBox(b, x) }),
		outcome(t, "BoxWays "+what, func() (string, bool) { return impl.BoxWays(b, x) }),
		outcome(t, "BoxesReached "+what, func() ([]impl.Box, bool) { return impl.BoxesReached(b, x) }),
		outcome(t, "CountBoxes "+what, func() (int, bool) { return impl.CountBoxes(b, x) }),
		outcome(t, "WordToHole "+what, func() (string, bool) { return impl.WordToHole(b, x) }),
		outcome(t, "FarthestBox "+what, func() (farBox, bool) { return farthestBox(b, x) }),
		outcome(t, "UpCells "+what, func() ([]int, bool) { return impl.UpCells(b, x) }),
		outcome(t, "TurnBox "+what, func() (impl.Box, bool) { return impl.TurnBox(b, x) }),
	}
}

// outcomesOfBoxWord calls each function whose arguments are a ground, a box and a word or a direction.
func outcomesOfBoxWord(t *testing.T, b string, x impl.Box, word string) []string {
	what := fmt.Sprintf("%.60q %v %.80q", b, x, word)
	return []string{
		outcome(t, "RollBox "+what, func() (impl.Box, bool) { return impl.RollBox(b, x, word) }),
		outcome(t, "RollBoxAlong "+what, func() (impl.Box, bool) { return impl.RollBoxAlong(b, x, word) }),
		outcome(t, "PosesAlong "+what, func() (string, bool) { return impl.PosesAlong(b, x, word) }),
	}
}

func outcomesOfBoxes(t *testing.T, b string, x impl.Box, y impl.Box) []string {
	what := fmt.Sprintf("WordToBox %.60q %v %v", b, x, y)
	return []string{outcome(t, what, func() (string, bool) { return impl.WordToBox(b, x, y) })}
}

// allBoxOutcomes calls all sixteen functions of boxes with all wild arguments.
func allBoxOutcomes(t *testing.T) []string {
	var out []string
	for _, x := range append(wildBoxes(), strangeBoxes()...) {
		out = append(out, outcome(t, fmt.Sprint("CellsOfBox ", x), func() ([]int, bool) { return impl.CellsOfBox(x) }))
	}
	for _, b := range append(boxGrounds(), wildTexts()...) {
		out = append(out, outcomesOfGround(t, b)...)
	}
	for _, b := range boxGrounds() {
		for _, x := range append(wildBoxes(), strangeBoxes()...) {
			out = append(out, outcomesOfBox(t, b, x)...)
			for _, word := range wildWalks() {
				out = append(out, outcomesOfBoxWord(t, b, x, word)...)
			}
		}
		for i, x := range wildBoxes() {
			for k, y := range wildBoxes() {
				if (i+k)%5 == 0 {
					out = append(out, outcomesOfBoxes(t, b, x, y)...)
				}
			}
		}
	}
	return out
}

// The outcomes do not change from call to call, although boxes found are kept in a map.
func TestPromise11BoxesAllArguments(t *testing.T) {
	expectSameOutcomes(t, allBoxOutcomes)
}

func TestPromise11BoxesArgumentsAreKept(t *testing.T) {
	grounds, boxes, words := boxGrounds(), wildBoxes(), wildWalks()
	for i, x := range boxes {
		for k, b := range grounds {
			word, y := words[(i+k)%len(words)], boxes[len(boxes)-1-i]
			keptGround, keptBox, keptOther, keptWord := strings.Clone(b), x, y, strings.Clone(word)
			outcomesOfGround(t, b)
			outcomesOfBox(t, b, x)
			outcomesOfBoxWord(t, b, x, word)
			outcomesOfBoxes(t, b, x, y)
			impl.CellsOfBox(x)
			if b != keptGround || x != keptBox || y != keptOther || word != keptWord {
				t.Errorf("an argument was modified: %q %v %v %q", b, x, y, word)
			}
		}
	}
}

func TestPromise11BoxesResultsAreNew(t *testing.T) {
	for pose := range 3 {
		expectNew(t, fmt.Sprint("CellsOfBox ", pose), func() ([]int, bool) { return impl.CellsOfBox(impl.Box{X: 2, Y: 1, Pose: pose}) })
	}
	for _, b := range []string{".", "...o", floorBoard(6, 6)} {
		expectNew(t, "BoxesReached "+b, func() ([]impl.Box, bool) { return impl.BoxesReached(b, impl.Box{}) })
		expectNew(t, "UpCells "+b, func() ([]int, bool) { return impl.UpCells(b, impl.Box{}) })
	}
}
