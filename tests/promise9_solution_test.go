package tests

import (
	"fmt"
	"math"
	"slices"
	"strings"
	"testing"

	"loop.example/g01207/impl"
)

// expectSolutions checks all functions that tell solutions of a puzzle.
func expectSolutions(t *testing.T, c solved) {
	t.Helper()
	what := " of " + textOf(c.puzzle)
	if !c.isTold() {
		for name, call := range solutionCalls {
			got, ok := call(c.puzzle)
			expectFailure(t, name+what, got, ok)
		}
		return
	}
	first, ok := impl.SolutionOf(c.puzzle)
	expectSuccess(t, "SolutionOf"+what, first, ok, c.first)
	length, ok := impl.LengthOf(c.puzzle)
	expectSuccess(t, "LengthOf"+what, length, ok, c.length)
	count, ok := impl.CountSolutions(c.puzzle)
	expectSuccess(t, "CountSolutions"+what, count, ok, c.count)
	words, ok := impl.AllSolutions(c.puzzle)
	if c.count > 100 {
		expectNoList(t, "AllSolutions"+what, words, ok)
		return
	}
	expectList(t, "AllSolutions"+what, words, ok, c.words())
}

// Puzzles with the length 0, with many solutions, and without any are among them.
func TestPromise9Solutions(t *testing.T) {
	kinds := map[string]int{}
	for _, c := range solvedPuzzles() {
		expectSolutions(t, c)
		kinds[fmt.Sprint("none ", c.count == 0)]++
		kinds[fmt.Sprint("empty ", c.length == 0)]++
		kinds[fmt.Sprint("several ", c.count > 1 && c.count <= 100)]++
		kinds[fmt.Sprint("more than told ", c.count > 100)]++
		kinds[fmt.Sprint("too long ", c.count > 0 && c.length > 60)]++
	}
	for _, kind := range []string{"none", "empty", "several", "more than told", "too long"} {
		expectEqual(t, "puzzles are tried: "+kind, kinds[kind+" true"] > 0, true)
	}
}

func TestPromise9SolutionExamples(t *testing.T) {
	for text, want := range map[string][]string{
		"../..:0:0:123456:1:1:2":               {"es"},
		"../..:0:0:123456:0:0:1":               {""},
		".:0:0:123456:0:0:1":                   {""},
		"../..:0:0:123456:0:0:5":               {"eswn"},
		"../..:0:0:777777:1:1:7":               {"es", "se"},
		"../..:1:1:777777:0:0:7":               {"nw", "wn"},
		"../..:0:1:777777:1:0:7":               {"ne", "en"},
		"../..:1:0:777777:0:1:7":               {"sw", "ws"},
		".../...:0:0:000000:2:1:0":             {"ees", "ese", "see"},
		".../.../...:2:2:000000:0:0:0":         {"nnww", "nwnw", "nwwn", "wnnw", "wnwn", "wwnn"},
		".../.../...:0:2:000000:2:0:0":         {"nnee", "nene", "neen", "enne", "enen", "eenn"},
		"#.#/.../#.#:1:0:555555:1:2:5":         {"ss"},
		floorBoard(7, 1) + ":0:0:123456:6:0:6": {"eeeeee"},
		".../.#.:0:0:123456:2:1:2":             {"ees"},
	} {
		p := puzzle(text)
		got, ok := impl.AllSolutions(p)
		expectList(t, "AllSolutions "+text, got, ok, want)
		first, ok := impl.SolutionOf(p)
		expectSuccess(t, "SolutionOf "+text, first, ok, want[0])
		length, ok := impl.LengthOf(p)
		expectSuccess(t, "LengthOf "+text, length, ok, len(want[0]))
		count, ok := impl.CountSolutions(p)
		expectSuccess(t, "CountSolutions "+text, count, ok, len(want))
	}
}

func TestPromise9PuzzlesWithoutSolutions(t *testing.T) {
	for _, text := range []string{
		noTop, unreachedCell, ".:0:0:123456:0:0:6", ".:0:0:123456:0:0:0", "..:0:0:123456:1:0:1", "..:0:0:123456:1:0:3", "../..:0:0:123456:0:0:3", "../..:0:0:123456:1:0:0",
		"./#/.:0:0:777777:0:2:7", ".#/#.:0:0:777777:1:1:7", ".#./###/.#.:0:0:000000:2:2:0", floorBoard(6, 6) + ":0:0:123456:5:5:0", floorBoard(6, 6) + ":0:0:123456:5:5:9",
	} {
		for name, call := range solutionCalls {
			got, ok := call(puzzle(text))
			expectFailure(t, name+" "+text, got, ok)
		}
	}
}

func TestPromise9CountsOfSolutions(t *testing.T) {
	for text, want := range map[string]int{hundredSolutions: 100, moreSolutions: 101, manySolutions: 252, severalTops: 11, "../..:0:0:777777:1:1:7": 2, "../..:0:0:123456:1:1:2": 1} {
		c := solvedText(text)
		expectEqual(t, "solutions by the web of "+text, c.count, want)
		expectSolutions(t, c)
		words, ok := impl.AllSolutions(c.puzzle)
		expectEqual(t, "AllSolutions succeeds for "+text, ok, want <= 100)
		expectEqual(t, "AllSolutions tells all of "+text, len(words) == want, ok)
	}
}

// With equal faces several states of a cell have the top, and their words count together, but not those to farther ones.
func TestPromise9SeveralStatesWithOneTop(t *testing.T) {
	together, nearest := 0, 0
	for _, c := range solvedPuzzles() {
		distances := c.from.efforts(isThat(c.from.start), noPrice)
		near, far := 0, 0
		for i, s := range c.from.states {
			if goalOf(c.puzzle)(s) && distances[i].rolls == c.length {
				near++
			} else if goalOf(c.puzzle)(s) {
				far++
			}
		}
		if near > 1 {
			together++
		}
		if near > 0 && far > 0 {
			nearest++
		}
	}
	expectEqual(t, "puzzles with several nearest states are tried", together > 20, true)
	expectEqual(t, "puzzles with states farther away are tried", nearest > 100, true)
}

func TestPromise9PuzzlesOfMaxRolls(t *testing.T) {
	c := solvedText(longestPuzzle)
	expectEqual(t, "the length of the longest puzzle", c.length, 60)
	expectSolutions(t, c)
	walls, ok := impl.NeedlessWalls(c.puzzle)
	expectList(t, "NeedlessWalls of the longest puzzle", walls, ok, c.needless(opened(c.puzzle.Board, c.puzzle.Start)))
	c = solvedText(tooLongPuzzle)
	expectEqual(t, "the length of the puzzle that is too long", c.length, 61)
	expectSolutions(t, c)
}

// All words are tried: the first ones that come to a goal are its solutions.
func TestPromise9AllWordsTried(t *testing.T) {
	for _, c := range triedWays() {
		words := wordsFrom(c.board, c.start, c.rolls)
		for _, at := range planOf(c.board).places() {
			for top := range 10 {
				p := puzzleTo(c.board, c.start, at, top)
				var want []string
				for _, w := range words {
					if goalOf(p)(w.end) && (want == nil || len(w.word) == len(want[0])) {
						want = append(want, w.word)
					}
				}
				got, ok := impl.AllSolutions(p)
				if want == nil {
					expectNoList(t, "AllSolutions "+textOf(p), got, ok)
					continue
				}
				expectList(t, "AllSolutions "+textOf(p), got, ok, want)
			}
		}
	}
}

// All words that are told solve the puzzle, and no beginning of them does.
func TestPromise9SolutionsSolve(t *testing.T) {
	for _, c := range solvedPuzzles() {
		words, _ := impl.AllSolutions(c.puzzle)
		for _, word := range words {
			isSolved, ok := impl.IsSolvedBy(c.puzzle, word)
			expectSuccess(t, "IsSolvedBy "+textOf(c.puzzle)+" "+word, isSolved, ok, true)
			begins, ok := impl.FirstSolved(c.puzzle, word)
			expectSuccess(t, "FirstSolved "+textOf(c.puzzle)+" "+word, begins, ok, word)
		}
	}
}

func TestPromise9HardestGoalExamples(t *testing.T) {
	for _, c := range []struct {
		b      string
		s      impl.State
		want   string
		length int
	}{
		{"../..", state(0, 0, "123456"), "../..:0:0:123456:1:1:1", 6},
		{".", state(0, 0, "123456"), ".:0:0:123456:0:0:1", 0},
		{".#/#.", state(1, 1, "908070"), ".#/#.:1:1:908070:1:1:9", 0},
		{"..", state(1, 0, "123456"), "..:1:0:123456:0:0:3", 1},
		{"...", state(1, 0, "123456"), "...:1:0:123456:0:0:3", 1},
		{"././.", state(0, 1, "123456"), "././.:0:1:123456:0:0:4", 1},
		{"../.#", state(0, 0, "123456"), "../.#:0:0:123456:1:0:5", 1},
		{"#./..", state(1, 1, "123456"), "#./..:1:1:123456:1:0:4", 1},
		{"#.#/...", state(1, 1, "123456"), "#.#/...:1:1:123456:1:0:4", 1},
		{".../.##/.##", state(0, 0, "777777"), ".../.##/.##:0:0:777777:2:0:7", 2},
		{"../..", state(0, 0, "777777"), "../..:0:0:777777:1:1:7", 2},
		{".../.../...", state(1, 1, "777777"), ".../.../...:1:1:777777:0:0:7", 2},
	} {
		got, length, ok := impl.HardestGoal(c.b, c.s)
		what := fmt.Sprint("HardestGoal ", c.b, c.s)
		expectSuccess(t, what, got, ok, puzzle(c.want))
		expectEqual(t, "the length of "+what, length, c.length)
	}
}

// Hardest goals are told apart by their rows, their columns and their tops.
func TestPromise9HardestGoal(t *testing.T) {
	ties := map[string]int{}
	for _, w := range webs() {
		what := fmt.Sprint("HardestGoal ", w.board, w.start)
		hardest, want := w.hardest()
		got, length, ok := impl.HardestGoal(w.board, w.start)
		if want > 60 {
			expectFailure(t, what, got, ok)
			expectEqual(t, "the length of a failing "+what, length, 0)
			ties["too long"]++
			continue
		}
		expectSuccess(t, what, got, ok, hardest[0])
		expectEqual(t, "the length of "+what, length, want)
		found, ok := impl.LengthOf(got)
		expectSuccess(t, "LengthOf "+what, found, ok, want)
		for _, other := range hardest[1:] {
			switch {
			case other.Y > got.Y && other.X < got.X:
				ties["Y before X"]++
			case other.Y > got.Y && other.Top < got.Top:
				ties["Y before Top"]++
			case other.Y == got.Y && other.X > got.X && other.Top < got.Top:
				ties["X before Top"]++
			case other.Y == got.Y && other.X == got.X:
				ties["Top"]++
			}
		}
	}
	for _, kind := range []string{"too long", "Y before X", "Y before Top", "X before Top", "Top"} {
		expectEqual(t, "hardest goals are told apart: "+kind, ties[kind] > 0, true)
	}
}

func TestPromise9HardestGoalOfMaxRolls(t *testing.T) {
	got, length, ok := impl.HardestGoal(longBoard, state(0, 3, "123456"))
	expectSuccess(t, "HardestGoal of MaxRolls rolls", got, ok, puzzle(longestPuzzle))
	expectEqual(t, "its length", length, 60)
	got, length, ok = impl.HardestGoal(longBoard, state(0, 4, "123456"))
	expectFailure(t, "HardestGoal of more rolls", got, ok)
	expectEqual(t, "its length", length, 0)
}

func TestPromise9HardestGoalFails(t *testing.T) {
	for _, w := range wrongStarts() {
		got, length, ok := impl.HardestGoal(w.board, w.start)
		expectFailure(t, fmt.Sprintf("HardestGoal %.60q %v", w.board, w.start), got, ok)
		expectEqual(t, "the length of a failing HardestGoal", length, 0)
	}
}

func TestPromise9NeedlessWallsExamples(t *testing.T) {
	for text, want := range map[string][]int{
		".:0:0:123456:0:0:1":                       nil,
		".#:0:0:123456:0:0:1":                      {1},
		"#.:1:0:123456:1:0:1":                      {0},
		".../.#.:0:0:123456:2:1:2":                 {4},
		"../..:0:0:123456:1:1:2":                   nil,
		".#/..:0:0:777777:1:1:7":                   {1},
		".#./...:0:0:777777:2:0:7":                 nil,
		"##./.##/..#:0:1:777777:1:2:7":             {0, 1, 4, 5, 8},
		".../##./...:0:0:777777:0:2:7":             nil,
		"...#/.##./....:0:0:777777:3:1:7":          {5},
		"#######/######./#######:6:1:123456:6:1:1": {0, 1, 2, 3, 4, 5, 6, 7, 8, 9, 10, 11, 12, 14, 15, 16, 17, 18, 19, 20},
	} {
		got, ok := impl.NeedlessWalls(puzzle(text))
		expectList(t, "NeedlessWalls "+text, got, ok, want)
	}
}

// Walls are taken away one alone, in turn: those without which the puzzle is shorter are needed.
func TestPromise9NeedlessWalls(t *testing.T) {
	kinds := map[string]int{}
	for _, w := range webs() {
		without := opened(w.board, w.start)
		cells := w.cells()
		for i, at := range cells {
			if !planOf(w.board)[at] || len(cells) > 9 && i%3 > 0 {
				continue
			}
			for top := range 10 {
				c := solvedOver(w, at, top)
				what := "NeedlessWalls " + textOf(c.puzzle)
				got, ok := impl.NeedlessWalls(c.puzzle)
				if !c.isTold() {
					expectNoList(t, what, got, ok)
					continue
				}
				want := c.needless(without)
				expectList(t, what, got, ok, want)
				kinds[fmt.Sprint("needless ", len(want) > 0, " needed ", len(want) < len(without))]++
			}
		}
	}
	for _, kind := range []string{"needless false needed false", "needless true needed false", "needless false needed true", "needless true needed true"} {
		expectEqual(t, "walls are tried: "+kind, kinds[kind] > 0, true)
	}
}

func TestPromise9MakePuzzleExamples(t *testing.T) {
	// The numbers behind 0 are 211, 1629, 2764, 1760, 2269, 8061, 460: floor, floor, wall, wall, the start on cell 1, one roll to the north and none to the east.
	got, ok := impl.MakePuzzle(2, 2, 0)
	expectSuccess(t, "MakePuzzle 2 2 0", got, ok, puzzle("../##:1:0:513642:0:0:3"))
}

func TestPromise9MakePuzzle(t *testing.T) {
	walls, starts := 0, 0
	for w := 2; w <= 5; w++ {
		for h := 2; h <= 5; h++ {
			for seed := 0; seed < 10000; seed += 303 {
				for _, seed := range []int{seed, 9999 - seed} {
					made := madeWeb(w, h, seed)
					want, length := made.hardest()
					what := fmt.Sprint("MakePuzzle ", w, " ", h, " ", seed)
					got, ok := impl.MakePuzzle(w, h, seed)
					expectSuccess(t, what, got, ok, want[0])
					found, ok := impl.LengthOf(got)
					expectSuccess(t, "LengthOf "+what, found, ok, length)
					walls += strings.Count(got.Board, "#")
					if len(made.states) == 1 {
						starts++
					}
				}
			}
		}
	}
	expectEqual(t, "puzzles are made with walls, also all around the start", walls > 1000 && starts > 10, true)
}

// Seeds are told in turn: each one makes its own puzzle, and the same one each time.
func TestPromise9MakePuzzleOfAllSeeds(t *testing.T) {
	made := map[impl.Puzzle]int{}
	for seed := range 10000 {
		w := madeWeb(2, 2, seed)
		want, _ := w.hardest()
		got, ok := impl.MakePuzzle(2, 2, seed)
		expectSuccess(t, fmt.Sprint("MakePuzzle 2 2 ", seed), got, ok, want[0])
		made[got]++
	}
	expectEqual(t, "seeds make different puzzles", len(made) > 300, true)
}

func TestPromise9MakePuzzleFails(t *testing.T) {
	sides := []int{math.MinInt, -2, -1, 0, 1, 6, 7, 36, 258, 1<<32 + 2, math.MaxInt}
	for _, side := range sides {
		for _, other := range append(slices.Clone(sides), 2, 3, 4, 5) {
			got, ok := impl.MakePuzzle(side, other, 17)
			expectFailure(t, fmt.Sprint("MakePuzzle ", side, other), got, ok)
			got, ok = impl.MakePuzzle(other, side, 17)
			expectFailure(t, fmt.Sprint("MakePuzzle ", other, side), got, ok)
		}
	}
	for _, seed := range []int{math.MinInt, -10007, -2, -1, 10000, 10001, 10007, 1 << 32, 1<<32 + 5, math.MaxInt / 149, math.MaxInt} {
		for _, side := range []int{1, 2, 5, 6} {
			got, ok := impl.MakePuzzle(side, 2, seed)
			expectFailure(t, fmt.Sprint("MakePuzzle ", side, seed), got, ok)
		}
	}
	for _, seed := range []int{0, 1, 9998, 9999} {
		for _, side := range []int{2, 5} {
			_, ok := impl.MakePuzzle(side, 7-side, seed)
			expectEqual(t, fmt.Sprint("MakePuzzle succeeds ", side, seed), ok, true)
		}
	}
}
