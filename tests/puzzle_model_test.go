package tests

import (
	"fmt"
	"math"
	"reflect"
	"regexp"
	"slices"
	"strconv"
	"strings"
	"sync"

	"loop.example/g01207/impl"
)

// The tests of puzzles hold the program against the webs of their boards and starts: solutions are told backwards from
// the states that have the top on the cell, and made puzzles from the list of all their numbers.

// puzzleTo returns the puzzle from a state to a cell with a top.
func puzzleTo(b string, s impl.State, at place, top int) impl.Puzzle {
	return impl.Puzzle{Board: b, Start: s, X: at.x, Y: at.y, Top: top}
}

// puzzle returns the puzzle with a text, read without the program.
func puzzle(text string) impl.Puzzle {
	parts := strings.Split(text, ":")
	number := func(i int) int { return int(parts[i][0] - '0') }
	return puzzleTo(parts[0], state(number(1), number(2), parts[3]), place{number(4), number(5)}, number(6))
}

// textOf returns the text of a puzzle.
func textOf(p impl.Puzzle) string {
	return fmt.Sprintf("%s:%d:%d:%s:%d:%d:%d", p.Board, p.Start.X, p.Start.Y, digits(p.Start.Die), p.X, p.Y, p.Top)
}

func digits(d impl.Die) string {
	text := ""
	for _, face := range facesOf(d) {
		text += strconv.Itoa(face)
	}
	return text
}

// goalOf tells which states a puzzle asks for.
func goalOf(p impl.Puzzle) goals {
	return isTopOn(place{p.X, p.Y}, p.Top)
}

// isBoardText reports whether a text is a board, told row by row.
func isBoardText(b string) bool {
	rows := strings.Split(b, "/")
	for _, row := range rows {
		if len(row) != len(rows[0]) || len(row) < 1 || strings.Trim(row, ".#") != "" {
			return false
		}
	}
	return len(rows) <= 7 && len(rows[0]) <= 7 && len(rows)*len(rows[0]) <= 36
}

var puzzlePattern = regexp.MustCompile(`\A[^:]*:[0-9]:[0-9]:[0-9]{6}:[0-9]:[0-9]:[0-9]\z`)

// isPuzzleText reports whether a text is that of a puzzle.
func isPuzzleText(text string) bool {
	if !puzzlePattern.MatchString(text) || !isBoardText(text[:strings.IndexByte(text, ':')]) {
		return false
	}
	p := puzzle(text)
	cells := planOf(p.Board)
	return cells[place{p.Start.X, p.Start.Y}] && cells[place{p.X, p.Y}]
}

// solved is a puzzle with its first solution, its length, and how many solutions there are; with the length of endless and none, if there is none.
type solved struct {
	puzzle impl.Puzzle
	from   web
	first  string
	length int
	count  int
}

func solvedOver(w web, at place, top int) solved {
	first, took, count := w.best(isTopOn(at, top), noPrice)
	return solved{puzzleTo(w.board, w.start, at, top), w, first, took.rolls, count}
}

func solvedText(text string) solved {
	p := puzzle(text)
	return solvedOver(webOf(p.Board, p.Start), place{p.X, p.Y}, p.Top)
}

// isTold reports whether the program tells solutions.
func (c solved) isTold() bool {
	return c.length <= 60
}

// words returns all solutions in order.
func (c solved) words() []string {
	efforts := c.from.efforts(goalOf(c.puzzle), noPrice)
	var words []string
	var roll func(at int, word string)
	roll = func(at int, word string) {
		if efforts[at].rolls == 0 {
			words = append(words, word)
		}
		for k := range order {
			if to := c.from.next[at][k]; to >= 0 && efforts[to].rolls == efforts[at].rolls-1 {
				roll(to, word+order[k:k+1])
			}
		}
	}
	roll(0, "")
	return words
}

// solvedPuzzles returns puzzles over all webs: to some cells of floor, on small boards to all, and to all tops, also such that no word solves.
var solvedPuzzles = sync.OnceValue(func() []solved {
	var cases []solved
	for _, w := range webs() {
		for _, at := range w.cells() {
			for top := range 10 {
				if planOf(w.board)[at] {
					cases = append(cases, solvedOver(w, at, top))
				}
			}
		}
	}
	for _, text := range []string{hundredSolutions, moreSolutions, manySolutions, severalTops, unreachedCell, noTop, longestPuzzle, tooLongPuzzle} {
		cases = append(cases, solvedText(text))
	}
	return cases
})

const (
	hundredSolutions = "...../...../...../...../..##./...../.....:4:0:111111:0:6:1"
	moreSolutions    = "...#./...../...../...../...#./...../.....:0:0:111111:4:6:1"
	manySolutions    = "....../....../....../....../....../......:0:0:111111:5:5:1"
	severalTops      = "..../..../..../....:0:0:121212:3:3:1"
	unreachedCell    = ".#.:0:0:123456:2:0:1"
	noTop            = "../..:0:0:123456:1:1:4"
	longestPuzzle    = longBoard + ":0:3:123456:5:2:2"
	tooLongPuzzle    = longBoard + ":0:4:123456:5:2:1"
)

// hardest returns the puzzles with the greatest length, of all cells row by row and all tops, and this length.
// Rolls are undone, so that words to the start are as long as those from it.
func (w web) hardest() ([]impl.Puzzle, int) {
	distances := w.efforts(isThat(w.start), noPrice)
	least := map[impl.Puzzle]int{}
	for i, s := range w.states {
		p := puzzleTo(w.board, w.start, place{s.X, s.Y}, s.Die.Top)
		if length, found := least[p]; !found || distances[i].rolls < length {
			least[p] = distances[i].rolls
		}
	}
	var hardest []impl.Puzzle
	greatest := -1
	for _, at := range planOf(w.board).places() {
		for top := range 10 {
			p := puzzleTo(w.board, w.start, at, top)
			length, found := least[p]
			if found && length > greatest {
				hardest, greatest = nil, length
			}
			if found && length == greatest {
				hardest = append(hardest, p)
			}
		}
	}
	return hardest, greatest
}

// opened returns the webs from a state on the board with one wall taken away, by the numbers of the walls.
func opened(b string, s impl.State) map[int]web {
	cells := planOf(b)
	webs := map[int]web{}
	for number, at := range cells.places() {
		if !cells[at] {
			cells[at] = true
			webs[number] = webOf(boardText(cells), s)
			cells[at] = false
		}
	}
	return webs
}

// boardText returns the text of a plan.
func boardText(cells plan) string {
	var rows []string
	for y := range cells.rows() {
		row := ""
		for x := range cells.columns() {
			if cells[place{x, y}] {
				row += "."
			} else {
				row += "#"
			}
		}
		rows = append(rows, row)
	}
	return strings.Join(rows, "/")
}

// needless returns the numbers of the walls without which a puzzle is as long as with them.
func (c solved) needless(opened map[int]web) []int {
	var numbers []int
	for number, w := range opened {
		if w.efforts(goalOf(c.puzzle), noPrice)[0].rolls == c.length {
			numbers = append(numbers, number)
		}
	}
	slices.Sort(numbers)
	return numbers
}

// turnedPuzzle returns the puzzle turned by a quarter clockwise.
func turnedPuzzle(p impl.Puzzle) impl.Puzzle {
	cells := planOf(p.Board)
	turned := func(x int, y int) place { return place{cells.rows() - 1 - y, x} }
	turnedCells := plan{}
	for at, isFloor := range cells {
		turnedCells[turned(at.x, at.y)] = isFloor
	}
	start := turned(p.Start.X, p.Start.Y)
	return puzzleTo(boardText(turnedCells), impl.State{X: start.x, Y: start.y, Die: movedDie(p.Start.Die, quarter)}, turned(p.X, p.Y), p.Top)
}

// madeWeb returns the web of the board and the start that a seed makes.
func madeWeb(w int, h int, seed int) web {
	numbers := []int{seed}
	for i := range w*h + 3 {
		numbers = append(numbers, (149*numbers[i]+211)%10007)
	}
	numbers = numbers[1:]
	start := numbers[w*h] % (w * h)
	cells := plan{}
	for i := range w * h {
		cells[place{i % w, i / w}] = numbers[i]%4 > 0 || i == start
	}
	d := die("123546")
	for range numbers[w*h+1] % 4 {
		d = movedDie(d, rollMatrices['n'])
	}
	for range numbers[w*h+2] % 4 {
		d = movedDie(d, rollMatrices['e'])
	}
	return webOf(boardText(cells), impl.State{X: start % w, Y: start / w, Die: d})
}

// wrongTops returns what is no face, also numbers that are faces but for high bits.
func wrongTops() []int {
	return []int{math.MinInt, -256, -1, 10, 11, 257, 1<<32 + 1, math.MaxInt}
}

// someFloor returns the first cell of floor, and 0, 0 if there is none.
func someFloor(b string) place {
	cells := planOf(b)
	for _, at := range cells.places() {
		if cells[at] {
			return at
		}
	}
	return place{}
}

// wrongPuzzles returns what is no puzzle: with a text that is no board, a start that is no state, a goal on a wall or beyond the sides, and a top that is none.
var wrongPuzzles = sync.OnceValue(func() []impl.Puzzle {
	var wrong []impl.Puzzle
	for _, w := range wrongStarts() {
		wrong = append(wrong, puzzleTo(w.board, w.start, someFloor(w.board), 1))
	}
	for _, b := range sampleBoards() {
		cells := planOf(b)
		away := wrongCells(b)
		for _, at := range cells.places() {
			if !cells[at] {
				away = append(away, at)
			}
		}
		for _, s := range startsOn(b) {
			for _, at := range away {
				wrong = append(wrong, puzzleTo(b, s, at, s.Die.Top))
			}
			for _, top := range wrongTops() {
				wrong = append(wrong, puzzleTo(b, s, place{s.X, s.Y}, top))
			}
		}
	}
	return wrong
})

// puzzleCall is a function of a puzzle, made to tell its result as a text that is empty for a zero value and for an empty list.
type puzzleCall func(p impl.Puzzle) (string, bool)

// solutionCalls are the functions that ask for solutions.
var solutionCalls = map[string]puzzleCall{
	"SolutionOf":     toldOf(impl.SolutionOf),
	"LengthOf":       toldOf(impl.LengthOf),
	"CountSolutions": toldOf(impl.CountSolutions),
	"AllSolutions":   toldOf(impl.AllSolutions),
	"NeedlessWalls":  toldOf(impl.NeedlessWalls),
}

// wordCalls are the functions of a puzzle and a word.
var wordCalls = map[string]func(p impl.Puzzle, word string) (string, bool){
	"IsSolvedBy":  toldWith(impl.IsSolvedBy),
	"ReplayOf":    toldWith(impl.ReplayOf),
	"FirstSolved": toldWith(impl.FirstSolved),
}

func toldOf[T any](call func(impl.Puzzle) (T, bool)) puzzleCall {
	return func(p impl.Puzzle) (string, bool) {
		got, ok := call(p)
		return plain(got), ok
	}
}

func toldWith[T any](call func(impl.Puzzle, string) (T, bool)) func(impl.Puzzle, string) (string, bool) {
	return func(p impl.Puzzle, word string) (string, bool) {
		got, ok := call(p, word)
		return plain(got), ok
	}
}

func plain(value any) string {
	v := reflect.ValueOf(value)
	if v.IsZero() || v.Kind() == reflect.Slice && v.Len() == 0 {
		return ""
	}
	return fmt.Sprintf("%#v", value)
}
