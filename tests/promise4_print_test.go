package tests

import (
	"fmt"
	"regexp"
	"slices"
	"strings"
	"testing"

	"loop.example/g01207/impl"
)

func TestPromise4Constants(t *testing.T) {
	expectEqual(t, "MaxTourCells", impl.MaxTourCells, 12)
}

func TestPromise4IsLabelled(t *testing.T) {
	for _, b := range labelledBoards() {
		expectEqual(t, fmt.Sprintf("IsLabelled %q", b), impl.IsLabelled(b), true)
	}
	for _, b := range wrongLabelled() {
		expectEqual(t, fmt.Sprintf("IsLabelled %.60q", b), impl.IsLabelled(b), false)
	}
	for c := range 256 {
		sign := string([]byte{byte(c)})
		expectEqual(t, fmt.Sprintf("IsLabelled %q", sign), impl.IsLabelled(sign), strings.Contains(".#0123456789", sign))
		expectEqual(t, fmt.Sprintf("IsLabelled behind 5 %q", sign), impl.IsLabelled("5"+sign), strings.Contains(".#0123456789", sign))
	}
}

func TestPromise4IsLabelledOfAllSizes(t *testing.T) {
	for columns := range 40 {
		for rows := 1; rows < 40; rows++ {
			b := strings.ReplaceAll(floorBoard(columns, rows), ".", "7")
			want := columns >= 1 && columns <= 7 && rows <= 7 && columns*rows <= 36
			expectEqual(t, fmt.Sprint("IsLabelled of the size ", columns, rows), impl.IsLabelled(b), want)
		}
	}
}

func TestPromise4IsLabelledOfAllShortTexts(t *testing.T) {
	rows := regexp.MustCompile(`^[.#09]+(/[.#09]+)*$`)
	texts := []string{""}
	for next := 0; len(texts[next]) < 5; next++ {
		for _, sign := range []string{".", "#", "/", "0", "9", "x"} {
			texts = append(texts, texts[next]+sign)
		}
	}
	for _, b := range texts {
		widths := map[int]bool{}
		for _, row := range strings.Split(b, "/") {
			widths[len(row)] = true
		}
		expectEqual(t, fmt.Sprintf("IsLabelled %q", b), impl.IsLabelled(b), rows.MatchString(b) && len(widths) == 1)
	}
}

func TestPromise4PrintsAlong(t *testing.T) {
	for word, want := range map[string]string{"": "6../.#.", "e": "63./.#.", "ee": "631/.#.", "ees": "631/.#4", "s": "6../4#.", "sn": "6../4#.", "ewsn": "63./4#."} {
		got, ok := impl.PrintsAlong(".../.#.", state(0, 0, "123456"), word)
		expectEqual(t, "PrintsAlong "+word, got, want)
		expectEqual(t, "PrintsAlong succeeds", ok, true)
	}
	later := 0
	for _, c := range walkCases() {
		what := fmt.Sprint("PrintsAlong ", c.board, c.start, c.word)
		got, ok := impl.PrintsAlong(c.board, c.start, c.word)
		if !c.isWhole() {
			expectFailure(t, what, got, ok)
			continue
		}
		want, same := written(c.board, c.way, bottomOf)
		expectEqual(t, what, got, want)
		expectEqual(t, what+" succeeds", ok, true)
		if !same {
			later++
		}
	}
	expectEqual(t, "words that print other numbers on a cell later are tried", later > 100, true)
}

// The die comes back to the first cell with another bottom: the later print stays, and both are counted.
func TestPromise4LaterPrints(t *testing.T) {
	for word, want := range map[string]string{"esw": "63/64", "eswn": "33/64", "eswne": "34/64", "eswneswn": "44/36", "eswneswneswn": "66/43"} {
		got, ok := impl.PrintsAlong("../..", state(0, 0, "123456"), word)
		expectEqual(t, "PrintsAlong "+word, got, want)
		expectEqual(t, "PrintsAlong succeeds", ok, true)
	}
	for word, want := range map[string][]int{"": {6: 1}, "eswn": {3: 2, 4: 1, 6: 2}, "ewewew": {3: 3, 6: 4}, "eswneswneswn": {3: 4, 4: 4, 6: 5}} {
		got, ok := impl.PrintCounts("../..", state(0, 0, "123456"), word)
		expectList(t, "PrintCounts "+word, got, ok, slices.Concat(want, make([]int, 10-len(want))))
	}
}

func TestPromise4PrintCounts(t *testing.T) {
	for _, c := range walkCases() {
		what := fmt.Sprint("PrintCounts ", c.board, c.start, c.word)
		got, ok := impl.PrintCounts(c.board, c.start, c.word)
		if !c.isWhole() {
			expectNoList(t, what, got, ok)
			continue
		}
		want := make([]int, 10)
		for _, s := range c.way {
			want[s.Die.Bottom]++
		}
		expectList(t, what, got, ok, want)
	}
	got, ok := impl.PrintCounts(".", state(0, 0, "123459"), "")
	expectList(t, "PrintCounts of the greatest number", got, ok, []int{0, 0, 0, 0, 0, 0, 0, 0, 0, 1})
	got, ok = impl.PrintCounts("..", state(0, 0, "000000"), strings.Repeat("ew", 30))
	expectList(t, "PrintCounts of the least number", got, ok, []int{61, 0, 0, 0, 0, 0, 0, 0, 0, 0})
}

func TestPromise4LabelsOfWord(t *testing.T) {
	for word, want := range map[string]string{"": "1../.#.", "e": "15./.#.", "ee": "156/.#.", "ees": "156/.#2", "s": "1../2#.", "ewewew": "15./.#.", "snee": "156/2#.", "eesnww": "156/.#2"} {
		got, ok := impl.LabelsOfWord(".../.#.", state(0, 0, "123456"), word)
		expectEqual(t, "LabelsOfWord "+word, got, want)
		expectEqual(t, "LabelsOfWord succeeds", ok, true)
	}
	again, different := 0, 0
	for _, c := range walkCases() {
		what := fmt.Sprint("LabelsOfWord ", c.board, c.start, c.word)
		got, ok := impl.LabelsOfWord(c.board, c.start, c.word)
		want, same := written(c.board, c.way, topOf)
		if !c.isWhole() || !same {
			expectFailure(t, what, got, ok)
			if c.isWhole() {
				different++
			}
			continue
		}
		expectEqual(t, what, got, want)
		expectEqual(t, what+" succeeds", ok, true)
		if len(sheetOf(got).labels) < len(c.way) {
			again++
		}
	}
	expectEqual(t, "words that give a cell its label again, and others another one, are tried", again > 1000 && different > 100, true)
}

// Around four cells the die comes back with another top, and with the same one if faces are equal.
func TestPromise4LabelsOfCellsAgain(t *testing.T) {
	for _, c := range []struct{ text, word, want string }{
		{"123456", "esw", "15/12"}, {"123456", "eswnwe", ""}, {"123456", "eswn", ""}, {"123456", "eswneswn", ""}, {"123456", "eswneswneswn", ""},
		{"000000", "eswn", "00/00"}, {"777777", "eswneswneswn", "77/77"}, {"521451", "eswn", "55/52"}, {"521451", "eswne", ""}, {"155453", "eswn", ""},
	} {
		got, ok := impl.LabelsOfWord("../..", state(0, 0, c.text), c.word)
		expectEqual(t, fmt.Sprint("LabelsOfWord ", c), got, c.want)
		expectEqual(t, "LabelsOfWord succeeds", ok, c.want != "")
	}
}

// boardCalls are the functions of a board, a state and a word, each made to tell its result as a text that is empty for a zero value.
var boardCalls = map[string]func(b string, s impl.State, word string) (string, bool){
	"PrintsAlong":  impl.PrintsAlong,
	"LabelsOfWord": impl.LabelsOfWord,
	"PrintCounts": func(b string, s impl.State, word string) (string, bool) {
		counts, ok := impl.PrintCounts(b, s, word)
		return strings.Trim(fmt.Sprint(counts), "[]"), ok
	},
}

func TestPromise4BoardsStatesAndWordsThatAreNone(t *testing.T) {
	for name, call := range boardCalls {
		for _, c := range wrongWalks() {
			got, ok := call(c.board, c.start, c.word)
			expectFailure(t, fmt.Sprintf("%s %.60q %v %.80q", name, c.board, c.start, c.word), got, ok)
		}
	}
}

// A labelled board with a label is no board.
func TestPromise4LabelsWhereABoardIsAskedFor(t *testing.T) {
	tried := 0
	for name, call := range boardCalls {
		for _, c := range sheetCases() {
			_, ok := call(c.board, c.start, "")
			expectEqual(t, fmt.Sprint(name, " succeeds without labels alone ", c.board, c.start), ok, len(c.labels) == 0)
			for _, dir := range []string{"n", "e", "s", "w"} {
				got, ok := call(c.board, c.start, dir)
				if len(c.labels) > 0 {
					expectFailure(t, fmt.Sprint(name, " ", c.board, c.start, dir), got, ok)
					tried++
				}
			}
		}
	}
	expectEqual(t, "labelled boards are tried", tried > 1000, true)
}

func TestPromise4FloorOfLabels(t *testing.T) {
	for b, want := range map[string]string{"156/.#.": ".../.#.", ".../.#.": ".../.#.", "0": ".", "9#/#0": ".#/#.", "#": "#", "0123456": "......."} {
		got, ok := impl.FloorOfLabels(b)
		expectEqual(t, "FloorOfLabels "+b, got, want)
		expectEqual(t, "FloorOfLabels succeeds", ok, true)
	}
	for _, b := range labelledBoards() {
		got, ok := impl.FloorOfLabels(b)
		expectEqual(t, "FloorOfLabels "+b, got, floorOf(b))
		expectEqual(t, "FloorOfLabels succeeds", ok, true)
		expectEqual(t, "FloorOfLabels returns a board "+b, impl.IsBoard(got), true)
	}
	for _, b := range wrongLabelled() {
		got, ok := impl.FloorOfLabels(b)
		expectFailure(t, fmt.Sprintf("FloorOfLabels %.60q", b), got, ok)
	}
}

func TestPromise4CountLabels(t *testing.T) {
	for b, want := range map[string]int{".": 0, "#": 0, "0": 1, "9": 1, "156/.#.": 3, "00/00": 4, "1#": 1, ".../.#.": 0} {
		got, ok := impl.CountLabels(b)
		expectEqual(t, "CountLabels "+b, got, want)
		expectEqual(t, "CountLabels succeeds", ok, true)
	}
	for _, b := range labelledBoards() {
		got, ok := impl.CountLabels(b)
		expectEqual(t, "CountLabels "+b, got, len(sheetOf(b).labels))
		expectEqual(t, "CountLabels succeeds", ok, true)
	}
	for _, b := range wrongLabelled() {
		got, ok := impl.CountLabels(b)
		expectFailure(t, fmt.Sprintf("CountLabels %.60q", b), got, ok)
	}
}

func TestPromise4TurnLabelled(t *testing.T) {
	for b, want := range map[string]string{"5": "5", "12": "1/2", "1/2": "21", "156/.#.": ".1/#5/.6", "12/34": "31/42", ".../.#.": "../#./..", "1#": "1/#"} {
		got, ok := impl.TurnLabelled(b)
		expectEqual(t, "TurnLabelled "+b, got, want)
		expectEqual(t, "TurnLabelled succeeds", ok, true)
	}
	for _, b := range labelledBoards() {
		sh := sheetOf(b)
		want := map[place]int{}
		for at, label := range sh.labels {
			want[place{sh.floor.rows() - 1 - at.y, at.x}] = label
		}
		got, ok := impl.TurnLabelled(b)
		expectEqual(t, "TurnLabelled succeeds", ok, true)
		expectEqual(t, "the labels of TurnLabelled "+b, fmt.Sprint(sheetOf(got).labels), fmt.Sprint(want))
		floor, _ := impl.FloorOfLabels(got)
		turned, _ := impl.TurnBoard(floorOf(b))
		expectEqual(t, "the floor of TurnLabelled "+b, floor, turned)
		for range 3 {
			got, _ = impl.TurnLabelled(got)
		}
		expectEqual(t, "four times TurnLabelled", got, b)
	}
	for _, b := range wrongLabelled() {
		got, ok := impl.TurnLabelled(b)
		expectFailure(t, fmt.Sprintf("TurnLabelled %.60q", b), got, ok)
	}
}

func TestPromise4MatchesHere(t *testing.T) {
	for _, c := range []struct {
		board string
		start impl.State
		want  bool
	}{
		{".", state(0, 0, "123456"), true}, {"1", state(0, 0, "123456"), true}, {"2", state(0, 0, "123456"), false}, {"6", state(0, 0, "123456"), false},
		{"0", state(0, 0, "012345"), true}, {"9", state(0, 0, "987654"), true}, {"0", state(0, 0, "987654"), false}, {"1.", state(1, 0, "923456"), true}, {"156/.#.", state(2, 0, "625431"), true}, {"156/.#.", state(2, 0, "123456"), false},
	} {
		got, ok := impl.MatchesHere(c.board, c.start)
		expectEqual(t, fmt.Sprint("MatchesHere ", c.board, c.start), got, c.want)
		expectEqual(t, "MatchesHere succeeds", ok, true)
	}
	tried := map[bool]int{}
	for _, c := range sheetCases() {
		got, ok := impl.MatchesHere(c.board, c.start)
		expectEqual(t, fmt.Sprint("MatchesHere ", c.board, c.start), got, c.matches(c.start))
		expectEqual(t, "MatchesHere succeeds", ok, true)
		tried[got]++
	}
	expectEqual(t, "states that match, and others, are tried", tried[true] > 500 && tried[false] > 50, true)
}
