package tests

import (
	"fmt"
	"regexp"
	"strconv"
	"strings"
	"sync"
	"testing"

	"loop.example/g01207/impl"
)

// The tests of the console hold the program against the table of lines, read with patterns. What a line does is told
// by plans, sheets, webs, and dice turned in space.

func deskOn(b string, x int, y int, text string) impl.Desk {
	return impl.Desk{Board: b, State: state(x, y, text)}
}

func firstDesk() impl.Desk {
	return deskOn(".../.#.", 0, 0, "123456")
}

// answer makes another desk of a desk, or the same one, and tells the reply. The words are those behind the first one of a line.
type answer func(d impl.Desk, words []string) (impl.Desk, string)

// lineRow is a row of the table of lines.
type lineRow struct {
	pattern *regexp.Regexp
	does    answer
}

var wordPatterns = strings.NewReplacer("B", `([.#/]+)`, "D", `([0-9]{6})`, "R", `([nesw]{1,60})`, "N", `(0|[1-9][0-9]{0,5})`)

func rowOf(line string, does answer) lineRow {
	return lineRow{regexp.MustCompile(`\A` + wordPatterns.Replace(line) + `\z`), does}
}

var lineRows = sync.OnceValue(func() []lineRow {
	return []lineRow{
		rowOf("board B N N", boardLine),
		rowOf("die D", func(d impl.Desk, words []string) (impl.Desk, string) {
			d.State.Die = die(words[0])
			return shownState(d, d.State)
		}),
		rowOf("roll R", alongWord(func(d impl.Desk, way []impl.State) (impl.Desk, string) { return shownState(d, way[len(way)-1]) })),
		rowOf("turn", func(d impl.Desk, _ []string) (impl.Desk, string) {
			p := turnedPuzzle(impl.Puzzle{Board: d.Board, Start: d.State})
			return shownState(impl.Desk{Board: p.Board}, p.Start)
		}),
		rowOf("show", func(d impl.Desk, _ []string) (impl.Desk, string) { return d, d.Board }),
		rowOf("state", func(d impl.Desk, _ []string) (impl.Desk, string) { return shownState(d, d.State) }),
		rowOf("can", func(d impl.Desk, _ []string) (impl.Desk, string) { return d, orDash(planOf(d.Board).moves(d.State)) }),
		rowOf("tops R", alongWord(topsLine)),
		rowOf("to N N N", toLine),
		rowOf("at N N", atLine),
		rowOf("cheap N N", cheapLine),
		rowOf("reach", func(d impl.Desk, _ []string) (impl.Desk, string) { return d, strconv.Itoa(len(webOfDesk(d).states)) }),
		rowOf("print R", alongWord(func(d impl.Desk, way []impl.State) (impl.Desk, string) {
			b, _ := written(d.Board, way, bottomOf)
			return d, b
		})),
		rowOf("labels R", alongWord(labelsLine)),
		rowOf("hard", hardLine),
		rowOf("least", func(d impl.Desk, _ []string) (impl.Desk, string) { return d, digits(waysInSpace(d.State.Die)[0]) }),
		rowOf("same R", func(d impl.Desk, words []string) (impl.Desk, string) {
			return d, orDash(turnWords()[matrixOfWord(words[0])])
		}),
	}
})

// lineOn returns the desk behind a line, and the reply.
func lineOn(d impl.Desk, line string) (impl.Desk, string) {
	for _, row := range lineRows() {
		if words := row.pattern.FindStringSubmatch(line); words != nil {
			return row.does(d, words[1:])
		}
	}
	return d, "what"
}

// shownState returns the desk with a state, and the text of it.
func shownState(d impl.Desk, s impl.State) (impl.Desk, string) {
	d.State = s
	return d, fmt.Sprintf("%d,%d:%s", s.X, s.Y, digits(s.Die))
}

func orDash(text string) string {
	if text == "" {
		return "-"
	}
	return text
}

func withCommas(numbers []int) string {
	return orDash(strings.Trim(strings.ReplaceAll(fmt.Sprint(numbers), " ", ","), "[]"))
}

func numberIn(word string) int {
	number, err := strconv.Atoi(word)
	if err != nil {
		panic(err)
	}
	return number
}

func boardLine(d impl.Desk, words []string) (impl.Desk, string) {
	at := place{numberIn(words[1]), numberIn(words[2])}
	switch {
	case !isBoardText(words[0]):
		return d, "what"
	case !planOf(words[0])[at]:
		return d, "no"
	}
	return shownState(impl.Desk{Board: words[0]}, impl.State{X: at.x, Y: at.y, Die: d.State.Die})
}

// alongWord returns what answers a line with a word of rolls by the states along it, and with no if it cannot be rolled along.
func alongWord(does func(d impl.Desk, way []impl.State) (impl.Desk, string)) answer {
	return func(d impl.Desk, words []string) (impl.Desk, string) {
		way := planOf(d.Board).walk(d.State, words[0])
		if len(way) <= len(words[0]) {
			return d, "no"
		}
		return does(d, way)
	}
}

func topsLine(d impl.Desk, way []impl.State) (impl.Desk, string) {
	var tops []int
	for _, s := range way {
		tops = append(tops, s.Die.Top)
	}
	return d, withCommas(tops)
}

func labelsLine(d impl.Desk, way []impl.State) (impl.Desk, string) {
	b, same := written(d.Board, way, topOf)
	if !same {
		return d, "no"
	}
	return d, b
}

func toLine(d impl.Desk, words []string) (impl.Desk, string) {
	word, took, _ := webOfDesk(d).best(isTopOn(place{numberIn(words[0]), numberIn(words[1])}, numberIn(words[2])), noPrice)
	if took.rolls > 60 {
		return d, "no"
	}
	return d, orDash(word)
}

func atLine(d impl.Desk, words []string) (impl.Desk, string) {
	at := place{numberIn(words[0]), numberIn(words[1])}
	if _, isCell := planOf(d.Board)[at]; !isCell {
		return d, "no"
	}
	return d, withCommas(webOfDesk(d).topsOn(at))
}

func cheapLine(d impl.Desk, words []string) (impl.Desk, string) {
	word, took, _ := webOfDesk(d).best(isOn(place{numberIn(words[0]), numberIn(words[1])}), topPrice)
	if took.rolls > 60 {
		return d, "no"
	}
	return d, strconv.Itoa(took.cost) + " " + orDash(word)
}

func hardLine(d impl.Desk, _ []string) (impl.Desk, string) {
	_, length := webOfDesk(d).hardest()
	if length > 60 {
		return d, "no"
	}
	return d, strconv.Itoa(length)
}

var websOfDesks = map[impl.Desk]web{}

func webOfDesk(d impl.Desk) web {
	w, known := websOfDesks[d]
	if !known {
		w = webOf(d.Board, d.State)
		websOfDesks[d] = w
	}
	return w
}

// scriptOn returns the desk behind lines that are executed one after the other from the first desk, their replies, and the numbers of those that fail.
func scriptOn(lines []string) (impl.Desk, []string, []int) {
	d := firstDesk()
	var replies []string
	var failed []int
	for i, line := range lines {
		next, reply := lineOn(d, line)
		d = next
		replies = append(replies, reply)
		if reply == "no" || reply == "what" {
			failed = append(failed, i+1)
		}
	}
	return d, replies, failed
}

func scriptText(lines []string) string {
	if len(lines) == 0 {
		return ""
	}
	return strings.Join(lines, "\n") + "\n"
}

// sampleDesks returns desks on boards of all sizes, with dice of different and of equal faces, and such with ways of more than MaxRolls rolls.
var sampleDesks = sync.OnceValue(func() []impl.Desk {
	desks := []impl.Desk{
		firstDesk(), deskOn(".", 0, 0, "000000"), deskOn("../..", 1, 1, "112233"), deskOn("../..", 0, 1, "900009"), deskOn(".../...", 1, 0, "012345"), deskOn(".#./.../#..", 2, 0, "121212"),
		deskOn(longBoard, 0, 3, "123456"), deskOn(longBoard, 0, 4, "123456"),
	}
	for _, w := range append(wideWays(), dearWay()) {
		desks = append(desks, impl.Desk{Board: w.board, State: w.start})
	}
	for _, b := range sampleBoards() {
		starts := startsOn(b)
		for i := 0; i < len(starts); i += len(starts)/2 + 1 {
			desks = append(desks, impl.Desk{Board: b, State: starts[i]})
		}
	}
	return desks
})

// wrongDesks returns what is no desk.
func wrongDesks() []impl.Desk {
	desks := []impl.Desk{{}, {Board: "."}, {State: state(0, 0, "123456")}}
	desks[1].State.X = 1
	for _, w := range wrongStarts() {
		desks = append(desks, impl.Desk{Board: w.board, State: w.start})
	}
	return desks
}

// rightLines returns a line of each row of the table, which succeeds on the first desk.
func rightLines() []string {
	return []string{"board ../.. 1 1", "die 654321", "roll e", "turn", "show", "state", "can", "tops ees", "to 2 1 2", "at 1 0", "cheap 2 0", "reach", "print ee", "labels ee", "hard", "least", "same nn"}
}

// expectLine checks the desk and the reply behind a line.
func expectLine(t *testing.T, d impl.Desk, line string, want impl.Desk, wantReply string) {
	t.Helper()
	got, reply, ok := impl.DeskLine(d, line)
	if !ok || got != want || reply != wantReply {
		t.Errorf("DeskLine %v %.200q: got %v, %.200q, %v, want %v, %.200q", d, line, got, reply, ok, want, wantReply)
	}
}

// expectNoLine checks that a line, or a desk, is refused by a failure.
func expectNoLine(t *testing.T, d impl.Desk, line string) {
	t.Helper()
	got, reply, ok := impl.DeskLine(d, line)
	if ok || got != (impl.Desk{}) || reply != "" {
		t.Errorf("DeskLine %.200v %.200q: got %v, %q, %v, want a failure with zero values", d, line, got, reply, ok)
	}
}

// expectScript checks all that is told of a script.
func expectScript(t *testing.T, script string, want impl.Desk, wantReplies []string, wantFailed []int) {
	t.Helper()
	what := fmt.Sprintf(" %.400q", script)
	replies, ok := impl.RunScript(script)
	expectList(t, "RunScript"+what, replies, ok, wantReplies)
	d, ok := impl.DeskAfter(script)
	expectSuccess(t, "DeskAfter"+what, d, ok, want)
	failed, ok := impl.FailedLines(script)
	expectList(t, "FailedLines"+what, failed, ok, wantFailed)
}

// expectNoScript checks that a text is told to be no script.
func expectNoScript(t *testing.T, text string) {
	t.Helper()
	what := fmt.Sprintf(" %.200q", text)
	replies, ok := impl.RunScript(text)
	expectNoList(t, "RunScript"+what, replies, ok)
	d, ok := impl.DeskAfter(text)
	expectFailure(t, "DeskAfter"+what, d, ok)
	failed, ok := impl.FailedLines(text)
	expectNoList(t, "FailedLines"+what, failed, ok)
}

// linesOnDesk returns lines of all rows for a desk: with words that can be rolled along and that cannot, and with cells and tops that are there and that are not.
func linesOnDesk(d impl.Desk) []string {
	lines := []string{"turn", "show", "state", "can", "reach", "hard", "least", "die 000000", "die 987654", "board ..#/#.. 1 1", "board . 0 0", "board # 0 0", "board " + d.Board + " 0 0"}
	words := append(allWords(2)[1:], longestWords()...)
	cells := planOf(d.Board)
	if cells.moves(d.State) != "" {
		long := cells.longWalk(d.State, 60)
		words = append(words, long, long[:59], long[:12], long[:59]+"n", long[:59]+"e", long[:59]+"s", long[:59]+"w")
	}
	for _, word := range words {
		lines = append(lines, "roll "+word, "tops "+word, "print "+word, "labels "+word, "same "+word)
	}
	for _, at := range append(webOfDesk(d).cells(), place{cells.columns(), 0}, place{0, cells.rows()}, place{999999, 0}) {
		text := fmt.Sprint(at.x, " ", at.y)
		lines = append(lines, "at "+text, "cheap "+text, "board "+d.Board+" "+text)
		for _, top := range []int{0, 1, 2, 3, 4, 5, 6, 7, 8, 9, 10, 11, 999999} {
			lines = append(lines, fmt.Sprint("to ", text, " ", top))
		}
	}
	return lines
}
