package tests

import (
	"fmt"
	"math"
	"slices"
	"strings"
	"testing"

	"loop.example/g01207/impl"
)

// madeResult is a puzzle and its length.
type madeResult struct {
	puzzle impl.Puzzle
	length int
}

// wildPuzzles returns puzzles and what is none.
func wildPuzzles() []impl.Puzzle {
	numbers := []int{math.MinInt, -1, 0, 1, 4, 7, math.MaxInt}
	puzzles := []impl.Puzzle{{}, puzzle(hundredSolutions), puzzle(moreSolutions), puzzle(manySolutions), puzzle(severalTops), puzzle(unreachedCell), puzzle(noTop), puzzle(longestPuzzle), puzzle(tooLongPuzzle)}
	for i, b := range wayBoards() {
		for k, s := range wayStates() {
			for j, x := range numbers {
				if (i+k+j)%7 > 0 {
					continue
				}
				y := numbers[(i+k)%len(numbers)]
				puzzles = append(puzzles, puzzleTo(b, s, place{x, y}, 1), puzzleTo(b, s, place{s.X, s.Y}, x), puzzleTo(b, s, place{0, 0}, s.Die.Top))
			}
		}
	}
	return puzzles
}

func wildWords() []string {
	return append(wildTexts(), "", "e", "es", "esn", strings.Repeat("eswn", 15), strings.Repeat("ew", 30))
}

func wildPuzzleTexts() []string {
	texts := append(wildTexts(), wrongPuzzleTexts()...)
	for _, p := range wildPuzzles() {
		if isBoardText(p.Board) {
			texts = append(texts, fmt.Sprintf("%s:%d:%d:123456:%d:%d:%d", p.Board, p.Start.X, p.Start.Y, p.X, p.Y, p.Top))
		}
	}
	return append(texts, longestPuzzle, strings.Repeat(longestPuzzle, 1000), strings.Repeat(":", 1<<16), strings.Repeat("1", 1<<16)+longestPuzzle)
}

// outcomesOfPuzzle calls each function whose argument is a puzzle.
func outcomesOfPuzzle(t *testing.T, p impl.Puzzle) []string {
	what := fmt.Sprintf("%.200v", p)
	return []string{
		outcome(t, "IsPuzzle "+what, alone(func() bool { return impl.IsPuzzle(p) })),
		outcome(t, "SolutionOf "+what, func() (string, bool) { return impl.SolutionOf(p) }),
		outcome(t, "LengthOf "+what, func() (int, bool) { return impl.LengthOf(p) }),
		outcome(t, "CountSolutions "+what, func() (int, bool) { return impl.CountSolutions(p) }),
		outcome(t, "AllSolutions "+what, func() ([]string, bool) { return impl.AllSolutions(p) }),
		outcome(t, "NeedlessWalls "+what, func() ([]int, bool) { return impl.NeedlessWalls(p) }),
		outcome(t, "TurnPuzzle "+what, func() (impl.Puzzle, bool) { return impl.TurnPuzzle(p) }),
		outcome(t, "PuzzleText "+what, func() (string, bool) { return impl.PuzzleText(p) }),
		outcome(t, "HardestGoal "+what, func() (madeResult, bool) {
			hardest, length, ok := impl.HardestGoal(p.Board, p.Start)
			return madeResult{hardest, length}, ok
		}),
	}
}

// outcomesOfReplay calls each function whose arguments are a puzzle and a word.
func outcomesOfReplay(t *testing.T, p impl.Puzzle, word string) []string {
	what := fmt.Sprintf("%.200v %.80q", p, word)
	return []string{
		outcome(t, "IsSolvedBy "+what, func() (bool, bool) { return impl.IsSolvedBy(p, word) }),
		outcome(t, "ReplayOf "+what, func() ([]string, bool) { return impl.ReplayOf(p, word) }),
		outcome(t, "FirstSolved "+what, func() (string, bool) { return impl.FirstSolved(p, word) }),
	}
}

func outcomeOfPuzzleText(t *testing.T, text string) string {
	return outcome(t, fmt.Sprintf("ParsePuzzle %.200q", text), func() (impl.Puzzle, bool) { return impl.ParsePuzzle(text) })
}

// allPuzzleOutcomes calls all fourteen functions with all wild arguments.
func allPuzzleOutcomes(t *testing.T) []string {
	var out []string
	words := wildWords()
	for i, p := range wildPuzzles() {
		out = append(out, outcomesOfPuzzle(t, p)...)
		for k, word := range words {
			if (i+k)%5 == 0 {
				out = append(out, outcomesOfReplay(t, p, word)...)
			}
		}
	}
	for _, text := range wildPuzzleTexts() {
		out = append(out, outcomeOfPuzzleText(t, text))
	}
	numbers := append(wildNumbers, 5, 7, 17, 9999, 10000, math.MaxInt32, math.MaxInt/149, 1<<32+3)
	for _, w := range numbers {
		for _, h := range numbers {
			for _, seed := range numbers {
				out = append(out, outcome(t, fmt.Sprint("MakePuzzle ", w, " ", h, " ", seed), func() (impl.Puzzle, bool) { return impl.MakePuzzle(w, h, seed) }))
			}
		}
	}
	return out
}

// The outcomes do not change from call to call, although maps are ranged over in another order each time.
func TestPromise11PuzzlesAllArguments(t *testing.T) {
	expectSameOutcomes(t, allPuzzleOutcomes)
}

func TestPromise11PuzzlesArgumentsAreKept(t *testing.T) {
	words, texts := wildWords(), wildPuzzleTexts()
	for i, p := range wildPuzzles() {
		word, text := words[i%len(words)], texts[i%len(texts)]
		kept, keptBoard, keptWord, keptText := p, strings.Clone(p.Board), strings.Clone(word), strings.Clone(text)
		outcomesOfPuzzle(t, p)
		outcomesOfReplay(t, p, word)
		outcomeOfPuzzleText(t, text)
		if p != kept || p.Board != keptBoard || word != keptWord || text != keptText {
			t.Errorf("an argument was modified: %.200v %.80q %.200q", p, word, text)
		}
	}
}

func TestPromise11PuzzlesResultsAreNew(t *testing.T) {
	for _, text := range []string{".:0:0:123456:0:0:1", "../..:0:0:123456:1:1:2", severalTops, hundredSolutions, longestPuzzle} {
		p := puzzle(text)
		expectNew(t, "AllSolutions "+text, func() ([]string, bool) { return impl.AllSolutions(p) })
		for _, word := range []string{"", solvedText(text).first} {
			expectNew(t, "ReplayOf "+text+" "+word, func() ([]string, bool) { return impl.ReplayOf(p, word) })
		}
		if walls, _ := impl.NeedlessWalls(p); len(walls) > 0 {
			expectNew(t, "NeedlessWalls "+text, func() ([]int, bool) { return impl.NeedlessWalls(p) })
		}
	}
	p := puzzle("##./.##/..#:0:1:777777:1:2:7")
	expectNew(t, "NeedlessWalls", func() ([]int, bool) { return impl.NeedlessWalls(p) })
}

// What is told of a puzzle does not depend on what was asked before.
func TestPromise11PuzzlesHaveNoMemory(t *testing.T) {
	cases := solvedPuzzles()
	var forwards, backwards []string
	for i := 0; i < len(cases); i += 17 {
		forwards = append(forwards, outcomesOfPuzzle(t, cases[i].puzzle)...)
	}
	for i := (len(cases) - 1) / 17 * 17; i >= 0; i -= 17 {
		outcomes := outcomesOfPuzzle(t, cases[i].puzzle)
		slices.Reverse(outcomes)
		backwards = append(backwards, outcomes...)
	}
	slices.Reverse(backwards)
	expectEqual(t, "outcomes forwards and backwards", slices.Equal(forwards, backwards), true)
}
