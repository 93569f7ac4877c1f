package tests

import (
	"fmt"
	"slices"
	"strings"
	"testing"

	"loop.example/g01207/impl"
)

func TestPromise9IsPuzzle(t *testing.T) {
	for _, text := range []string{
		".:0:0:123456:0:0:1", ".:0:0:123456:0:0:0", ".:0:0:123456:0:0:9", "../..:0:0:123456:1:1:2", "../..:0:0:123456:1:1:4", ".#.:0:0:000000:2:0:7", ".#/#.:1:1:999999:0:0:5",
		floorBoard(6, 6) + ":5:0:112233:0:5:3", floorBoard(7, 5) + ":6:4:123456:0:0:1", floorBoard(5, 7) + ":0:0:123456:4:6:1", hundredSolutions, longestPuzzle, tooLongPuzzle,
	} {
		expectEqual(t, "IsPuzzle "+text, impl.IsPuzzle(puzzle(text)), true)
	}
	for _, b := range sampleBoards() {
		cells := planOf(b)
		for _, s := range startsOn(b) {
			for _, at := range cells.places() {
				for _, top := range []int{0, s.Die.Top, 9} {
					expectEqual(t, fmt.Sprint("IsPuzzle ", b, s, at, top), impl.IsPuzzle(puzzleTo(b, s, at, top)), cells[at])
				}
			}
		}
	}
	for _, p := range wrongPuzzles() {
		expectEqual(t, fmt.Sprintf("IsPuzzle %.300v", p), impl.IsPuzzle(p), false)
	}
	expectEqual(t, "IsPuzzle of nothing", impl.IsPuzzle(impl.Puzzle{}), false)
}

func TestPromise9WrongPuzzlesFail(t *testing.T) {
	for _, p := range wrongPuzzles() {
		what := fmt.Sprintf("of %.300v", p)
		for name, call := range solutionCalls {
			got, ok := call(p)
			expectFailure(t, name+what, got, ok)
		}
		turned, ok := impl.TurnPuzzle(p)
		expectFailure(t, "TurnPuzzle "+what, turned, ok)
		text, ok := impl.PuzzleText(p)
		expectFailure(t, "PuzzleText "+what, text, ok)
		for name, call := range wordCalls {
			for _, word := range []string{"", "n", "e", "x"} {
				got, ok := call(p, word)
				expectFailure(t, name+" "+word+what, got, ok)
			}
		}
	}
}

func TestPromise9WrongWordsFail(t *testing.T) {
	for name, call := range wordCalls {
		for _, text := range []string{".:0:0:123456:0:0:1", "../..:0:0:123456:0:0:1", "../..:0:0:123456:1:1:2", "../..:1:1:777777:1:1:7"} {
			for _, word := range append(wrongWords(), strings.Repeat("eswn", 15)+"e", strings.Repeat("nwse", 1000), "esx", "x") {
				got, ok := call(puzzle(text), word)
				expectFailure(t, fmt.Sprintf("%s %s %.80q", name, text, word), got, ok)
			}
		}
	}
}

func TestPromise9IsSolvedByExamples(t *testing.T) {
	for _, c := range []struct {
		text string
		word string
		want bool
	}{
		{"../..:0:0:123456:1:1:2", "es", true},
		{"../..:0:0:123456:1:1:2", "se", false},
		{"../..:0:0:123456:1:1:2", "", false},
		{"../..:0:0:123456:0:0:1", "", true},
		{"../..:0:0:123456:0:0:2", "", false},
		{"../..:0:0:123456:0:0:1", strings.Repeat("eswn", 15), true},
		{"../..:0:0:123456:0:0:1", strings.Repeat("eswn", 14), false},
		{"../..:0:0:123456:0:0:1", strings.Repeat("eswn", 14) + "ewns", false},
		{"../..:0:0:123456:1:1:2", "n", false},
		{"../..:0:0:123456:1:1:2", "esn", false},
		{"../..:0:0:123456:1:1:2", "ess", false},
		{"../..:0:0:123456:1:1:2", "eee", false},
		{"../..:0:0:123456:1:1:2", "esns", true},
		{"../..:0:0:123456:1:1:2", "ewes", true},
		{"../..:0:0:777777:1:1:7", "se", true},
		{"../..:0:0:123456:1:1:4", "es", false},
		{unreachedCell, "", false},
		{unreachedCell, "ee", false},
		{".:0:0:123456:0:0:1", "", true},
		{".:0:0:123456:0:0:6", "", false},
		{".:0:0:123456:0:0:1", "ns", false},
	} {
		got, ok := impl.IsSolvedBy(puzzle(c.text), c.word)
		expectSuccess(t, fmt.Sprint("IsSolvedBy ", c.text, " ", c.word), got, ok, c.want)
	}
}

// goalsAlong returns puzzles whose goals are met at the beginning of a way, in its middle, at its end, or not at all; one is tied to the cell at the end with whatever top is not there.
func goalsAlong(c walkCase) []impl.Puzzle {
	var puzzles []impl.Puzzle
	for _, i := range []int{0, len(c.way) / 3, len(c.way) / 2, len(c.way) - 1} {
		s := c.way[i]
		puzzles = append(puzzles, puzzleTo(c.board, c.start, place{s.X, s.Y}, s.Die.Top))
	}
	end := c.way[len(c.way)-1]
	return append(puzzles, puzzleTo(c.board, c.start, place{end.X, end.Y}, (end.Die.Top+1)%10))
}

// Words solve puzzles at their ends alone, their beginnings where they come to the goal first; none does so if it cannot be rolled along.
func TestPromise9WordsAlongWays(t *testing.T) {
	kinds := map[string]int{}
	for _, c := range walkCases() {
		for _, p := range goalsAlong(c) {
			what := fmt.Sprint(c.board, c.start, p.X, p.Y, p.Top, c.word)
			isGoal := goalOf(p)
			last := len(c.way) - 1
			first := slices.IndexFunc(c.way, isGoal)
			solved, ok := impl.IsSolvedBy(p, c.word)
			expectSuccess(t, "IsSolvedBy "+what, solved, ok, c.isWhole() && isGoal(c.way[last]))
			begins, ok := impl.FirstSolved(p, c.word)
			if !c.isWhole() || first < 0 {
				expectFailure(t, "FirstSolved "+what, begins, ok)
			} else {
				expectSuccess(t, "FirstSolved "+what, begins, ok, c.word[:first])
			}
			kinds[fmt.Sprint("whole ", c.isWhole(), ", met ", first >= 0, ", at the end ", isGoal(c.way[last]), ", there first ", first == last)]++
		}
	}
	for _, kind := range []string{
		"whole true, met false, at the end false, there first false", "whole true, met true, at the end false, there first false", "whole true, met true, at the end true, there first false", "whole true, met true, at the end true, there first true",
		"whole false, met false, at the end false, there first false", "whole false, met true, at the end false, there first false", "whole false, met true, at the end true, there first false", "whole false, met true, at the end true, there first true",
	} {
		expectEqual(t, "words are tried: "+kind, kinds[kind] > 100, true)
	}
}

func TestPromise9ReplayOf(t *testing.T) {
	got, ok := impl.ReplayOf(puzzle("../..:0:0:123456:1:1:2"), "es")
	expectList(t, "ReplayOf es", got, ok, []string{"123456", "521463", "231564"})
	got, ok = impl.ReplayOf(puzzle(".:0:0:090807:0:0:1"), "")
	expectList(t, "ReplayOf of no rolls", got, ok, []string{"090807"})
	got, ok = impl.ReplayOf(puzzle(unreachedCell), "e")
	expectNoList(t, "ReplayOf against a wall", got, ok)
	for _, c := range walkCases() {
		what := fmt.Sprint("ReplayOf ", c.board, c.start, c.word)
		got, ok := impl.ReplayOf(puzzleTo(c.board, c.start, place{c.start.X, c.start.Y}, 3), c.word)
		if !c.isWhole() {
			expectNoList(t, what, got, ok)
			continue
		}
		var want []string
		for _, s := range c.way {
			want = append(want, digits(s.Die))
		}
		expectList(t, what, got, ok, want)
	}
}

func TestPromise9FirstSolvedExamples(t *testing.T) {
	for _, c := range []struct {
		text string
		word string
		want string
	}{
		{"../..:0:0:123456:1:1:2", "es", "es"},
		{"../..:0:0:123456:1:1:2", "esn", "es"},
		{"../..:0:0:123456:1:1:2", "esns", "es"},
		{"../..:0:0:123456:1:1:2", "ewesnswn", "ewes"},
		{"../..:0:0:123456:0:0:1", "", ""},
		{"../..:0:0:123456:0:0:1", strings.Repeat("eswn", 15), ""},
		{"../..:0:0:123456:0:0:5", strings.Repeat("eswn", 15), "eswn"},
		{".:0:0:123456:0:0:1", "", ""},
	} {
		got, ok := impl.FirstSolved(puzzle(c.text), c.word)
		expectSuccess(t, fmt.Sprint("FirstSolved ", c.text, " ", c.word), got, ok, c.want)
	}
	for _, c := range [][2]string{
		{"../..:0:0:123456:1:1:2", ""}, {"../..:0:0:123456:1:1:2", "e"}, {"../..:0:0:123456:1:1:2", "se"}, {"../..:0:0:123456:1:1:2", "ess"}, {"../..:0:0:123456:1:1:2", "esnn"}, {"../..:0:0:123456:1:1:2", "ese"},
		{"../..:0:0:123456:0:0:1", "n"}, {"../..:0:0:123456:0:0:1", "en"}, {"../..:0:0:123456:0:0:2", ""}, {".:0:0:123456:0:0:1", "e"}, {unreachedCell, "e"}, {unreachedCell, ""}, {noTop, "es"},
	} {
		got, ok := impl.FirstSolved(puzzle(c[0]), c[1])
		expectFailure(t, fmt.Sprint("FirstSolved ", c), got, ok)
	}
}

func TestPromise9TurnPuzzle(t *testing.T) {
	for text, want := range map[string]string{
		".:0:0:123456:0:0:1":                   ".:0:0:152346:0:0:1",
		"../..:0:0:123456:1:1:2":               "../..:1:0:152346:0:1:2",
		".../.#.:2:0:123456:0:1:9":             "../#./..:1:2:152346:0:0:9",
		unreachedCell:                          "./#/.:0:0:152346:0:2:1",
		"./#/.:0:2:123456:0:0:0":               ".#.:0:0:152346:2:0:0",
		floorBoard(7, 5) + ":6:4:112233:1:0:3": floorBoard(5, 7) + ":0:6:131223:4:1:3",
	} {
		got, ok := impl.TurnPuzzle(puzzle(text))
		expectSuccess(t, "TurnPuzzle "+text, got, ok, puzzle(want))
	}
	for _, c := range solvedPuzzles() {
		turned, ok := impl.TurnPuzzle(c.puzzle)
		expectSuccess(t, "TurnPuzzle "+textOf(c.puzzle), turned, ok, turnedPuzzle(c.puzzle))
		again := c.puzzle
		for range 4 {
			again, ok = impl.TurnPuzzle(again)
			expectEqual(t, "TurnPuzzle succeeds", ok && impl.IsPuzzle(again), true)
		}
		expectEqual(t, "turned four times "+textOf(c.puzzle), again, c.puzzle)
	}
}

// The solutions of a turned puzzle are those of the puzzle, turned.
func TestPromise9SolutionsOfTurnedPuzzles(t *testing.T) {
	several := 0
	for i, c := range solvedPuzzles() {
		if i%5 > 0 || !c.isTold() || c.count > 100 {
			continue
		}
		turned, _ := impl.TurnPuzzle(c.puzzle)
		got, ok := impl.AllSolutions(turned)
		var want []string
		for _, word := range c.words() {
			back := strings.NewReplacer("n", "e", "e", "s", "s", "w", "w", "n")
			want = append(want, back.Replace(word))
		}
		slices.Sort(got)
		slices.Sort(want)
		expectList(t, "solutions of the turned "+textOf(c.puzzle), got, ok, want)
		if len(want) > 1 {
			several++
		}
	}
	expectEqual(t, "puzzles with several solutions are turned", several > 20, true)
}

func TestPromise9PuzzleText(t *testing.T) {
	for _, text := range []string{".:0:0:000000:0:0:0", "../..:0:0:123456:1:1:2", ".../.#.:2:1:905172:0:1:9", floorBoard(7, 5) + ":6:4:999999:5:3:9", floorBoard(6, 6) + ":0:5:123456:5:0:1"} {
		got, ok := impl.PuzzleText(puzzle(text))
		expectSuccess(t, "PuzzleText", got, ok, text)
	}
	for _, c := range solvedPuzzles() {
		want := textOf(c.puzzle)
		got, ok := impl.PuzzleText(c.puzzle)
		expectSuccess(t, "PuzzleText", got, ok, want)
		back, ok := impl.ParsePuzzle(got)
		expectSuccess(t, "ParsePuzzle "+want, back, ok, c.puzzle)
	}
}

// wrongPuzzleTexts returns texts that are none of puzzles.
func wrongPuzzleTexts() []string {
	texts := []string{
		"", ":", "::::::", ":::::::", strings.Repeat(":", 5000), ".", "../..", "../..:0:0:123456", "../..:0:0:123456:1:1", "../..:0:0:123456:1:1:", "../..:0:0:123456:1:1:2:", ":../..:0:0:123456:1:1:2", "../..:0:0:123456:1:1:2:3", "../..:0:0:123456:1:1:2:../..", "0:0:123456:1:1:2",
		"../..;0;0;123456;1;1;2", "../.. 0 0 123456 1 1 2", "../..,0,0,123456,1,1,2", " ../..:0:0:123456:1:1:2", "../..:0:0:123456:1:1:2 ", "../..:0:0:123456:1:1:2\n", "../..:0:0:123456:1:1:2\x00", "../..:0:0:123456:1:1:２", "..\\..:0:0:123456:1:1:2",
		".#:1:0:123456:0:0:1", ".#:0:0:123456:1:0:1", "../..:2:0:123456:1:1:2", "../..:0:2:123456:1:1:2", "../..:0:0:123456:2:1:2", "../..:0:0:123456:1:2:2", floorBoard(7, 6) + ":0:0:123456:1:1:2", floorBoard(8, 1) + ":0:0:123456:1:0:2", floorBoard(8, 1) + ":7:0:123456:7:0:1",
	}
	parts := strings.Split("../..:0:0:123456:1:1:2", ":")
	numbers := []string{"", " ", "-0", "-1", "+0", "+1", "+2", "00", "01", "02", "1 ", " 1", "1.0", "1e0", "0x1", "0b1", "1_0", "x", "n", "１", "10", "256", "257", "65536", "4294967296", "4294967297", "9223372036854775807", "9223372036854775808", "-9223372036854775808", "18446744073709551616", "18446744073709551617", "36893488147419103233", strings.Repeat("0", 100) + "1", strings.Repeat("9", 400)}
	positions := append(numbers, "2", "3", "9")
	others := [][]string{
		append(wrongBoards(), "#", "#./.."),
		positions,
		positions,
		{"", "12345", "1234567", "123456 ", " 123456", "12345x", "x23456", "-12345", "+12345", "12345\xff", "１２３４５６", "1234 6", "12.456", "0", "000000000000"},
		positions,
		positions,
		append(numbers, "11", "99"),
	}
	for i, values := range others {
		for _, value := range values {
			changed := slices.Clone(parts)
			changed[i] = value
			texts = append(texts, strings.Join(changed, ":"))
		}
	}
	return texts
}

func TestPromise9ParsePuzzle(t *testing.T) {
	for _, text := range []string{".:0:0:000000:0:0:0", "../..:0:0:123456:1:1:2", ".../.#.:2:1:905172:0:1:9", hundredSolutions, longestPuzzle, noTop} {
		got, ok := impl.ParsePuzzle(text)
		expectSuccess(t, "ParsePuzzle "+text, got, ok, puzzle(text))
	}
	for _, text := range wrongPuzzleTexts() {
		got, ok := impl.ParsePuzzle(text)
		expectFailure(t, fmt.Sprintf("ParsePuzzle %.120q", text), got, ok)
	}
}

// Each sign of some texts in turn is taken away, comes twice, or gives its place to another one: what is no text of a puzzle then fails.
func TestPromise9ParsePuzzleOfChangedTexts(t *testing.T) {
	fine, failed := 0, 0
	for _, text := range []string{".:0:0:000000:0:0:0", "../..:0:0:123456:1:1:2", ".../.#.:2:1:905172:0:1:9", ".#.#./##.##:4:0:123456:0:0:3", floorBoard(6, 6) + ":0:5:123456:5:0:1"} {
		for i := range text {
			changes := []string{text[:i] + text[i+1:], text[:i+1] + text[i:], text[:i], text[i:]}
			for _, sign := range strings.Split(".#/:0123456789- +x\n\x00\xff", "") {
				changes = append(changes, text[:i]+sign+text[i+1:], text[:i]+sign+text[i:])
			}
			for _, changed := range changes {
				what := fmt.Sprintf("ParsePuzzle %q", changed)
				got, ok := impl.ParsePuzzle(changed)
				if !isPuzzleText(changed) {
					expectFailure(t, what, got, ok)
					failed++
					continue
				}
				expectSuccess(t, what, got, ok, puzzle(changed))
				back, ok := impl.PuzzleText(got)
				expectSuccess(t, "PuzzleText behind "+what, back, ok, changed)
				fine++
			}
		}
	}
	expectEqual(t, "changed texts are puzzles and are none", fine > 500 && failed > 1000, true)
}
