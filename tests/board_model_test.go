package tests

import (
	"math"
	"slices"
	"strings"
	"sync"

	"loop.example/g01207/impl"
)

// The tests of boards hold the program against a plan of the cells, read sign by sign,
// on which dice are turned in space.

type place struct{ x, y int }

// steps tells how a roll changes the cell; the first row is in the north.
var steps = map[byte]place{'n': {0, -1}, 'e': {1, 0}, 's': {0, 1}, 'w': {-1, 0}}

// plan tells for each cell that there is whether it is floor.
type plan map[place]bool

func planOf(b string) plan {
	cells := plan{}
	at := place{}
	for i := range len(b) {
		if b[i] == '/' {
			at = place{0, at.y + 1}
			continue
		}
		cells[at] = b[i] == '.'
		at.x++
	}
	return cells
}

func (p plan) columns() int {
	columns := 0
	for at := range p {
		columns = max(columns, at.x+1)
	}
	return columns
}

func (p plan) rows() int {
	rows := 0
	for at := range p {
		rows = max(rows, at.y+1)
	}
	return rows
}

// places returns all cells, row by row.
func (p plan) places() []place {
	var places []place
	for y := range p.rows() {
		for x := range p.columns() {
			places = append(places, place{x, y})
		}
	}
	return places
}

// walk returns the states before and behind each roll of a word, as far as there is floor.
func (p plan) walk(s impl.State, word string) []impl.State {
	way := []impl.State{s}
	for i := range len(word) {
		step := steps[word[i]]
		s = impl.State{X: s.X + step.x, Y: s.Y + step.y, Die: movedDie(s.Die, rollMatrices[word[i]])}
		if !p[place{s.X, s.Y}] {
			break
		}
		way = append(way, s)
	}
	return way
}

// moves returns the directions in which there is floor.
func (p plan) moves(s impl.State) string {
	return movesOf(s, p.walk)
}

// movesOf returns the directions in which a walk of one roll is not stopped.
func movesOf(s impl.State, walk func(impl.State, string) []impl.State) string {
	moves := ""
	for _, dir := range []string{"n", "e", "s", "w"} {
		if len(walk(s, dir)) == 2 {
			moves += dir
		}
	}
	return moves
}

// longWalk returns a word of n directions, without a plain pattern, that can be rolled along. There has to be a move.
func (p plan) longWalk(s impl.State, n int) string {
	word := ""
	for i := 0; len(word) < n; i++ {
		dir := string("nesw"[(i*i+i/3)%4])
		if way := p.walk(s, dir); len(way) == 2 {
			word += dir
			s = way[1]
		}
	}
	return word
}

func state(x int, y int, text string) impl.State {
	return impl.State{X: x, Y: y, Die: die(text)}
}

// floorBoard returns a text of floor alone, also of a size that no board has.
func floorBoard(columns int, rows int) string {
	return strings.TrimSuffix(strings.Repeat(strings.Repeat(".", columns)+"/", rows), "/")
}

// sampleBoards returns boards of one cell and of few cells, boards at the limits of rows, columns and cells, with floor alone, with walls, and with walls alone.
func sampleBoards() []string {
	boards := strings.Fields(". # .. .# #. ## ./. #/. ./# #/# .../.#. ../.. .#./#.#/.#. ..../#..#/.... #./.# .#.#. ##/## ..#/.../#..")
	return append(boards,
		floorBoard(1, 7), floorBoard(7, 1), floorBoard(6, 6), floorBoard(7, 5), floorBoard(5, 7), "././#/./././.", "..#....",
		"......./.#####./.#...#./.#.#.#./...#...",
		"..#..#/#.#..#/....../.####./.#..#./...#..",
		"######/######/######/######/######/######",
		".#.#.#./#.#.#.#/.#.#.#./#.#.#.#/.#.#.#.")
}

// wrongBoards returns texts that are no boards: rows of unequal lengths and empty ones, other signs, and sizes beyond the limits.
func wrongBoards() []string {
	boards := []string{
		"", "/", "//", "./", "/.", "#/", "/#", ".//.", "../.", "./..", "../../.", "../../...", "./../.", "...../...../.....#", "......./......",
		"x", "..x", "x..", ".x.", "0", "1.", ".1/..", "-", "o", ". .", " .", ". ", ".\n", "\n", ".\n.", ".\\.", ".|.", ".,.", ".\x00", "\x00", "\xff", "·", "．", "../.\xff", "./\xc3", "\xae.", "\xa3",
		".../.#./", "/.../.#.", ".../.#.\n", ".../.#x",
		floorBoard(8, 1), floorBoard(1, 8), floorBoard(8, 2), floorBoard(2, 8), floorBoard(8, 4), floorBoard(4, 8), floorBoard(9, 4), floorBoard(4, 9), floorBoard(12, 3), floorBoard(36, 1), floorBoard(1, 36), floorBoard(37, 1),
		floorBoard(7, 6), floorBoard(6, 7), floorBoard(7, 7), floorBoard(8, 8), floorBoard(6, 6) + "/.", floorBoard(6, 6) + ".", floorBoard(7, 5) + "/.", floorBoard(100, 100), floorBoard(1, 257), floorBoard(257, 1),
		strings.Repeat("#######/", 6) + "#######", strings.Repeat("/", 5000), strings.Repeat(".", 5000),
	}
	for _, b := range []string{".../.#.", floorBoard(6, 6)} {
		for i := range len(b) {
			boards = append(boards, b[:i]+"x"+b[i+1:], b[:i]+"/"+b[i:])
		}
	}
	return boards
}

// startsOn returns states on all floor of a board, with dice that differ from cell to cell.
func startsOn(b string) []impl.State {
	texts := []string{"123456", "905172", "112345"}
	var starts []impl.State
	cells := planOf(b)
	for i, at := range cells.places() {
		if cells[at] {
			starts = append(starts, state(at.x, at.y, texts[i%len(texts)]))
		}
	}
	return starts
}

// statesOff returns what is no state on a board: dice on walls and beyond the sides, and on floor what is no die.
func statesOff(b string) []impl.State {
	cells := planOf(b)
	columns, rows := cells.columns(), cells.rows()
	away := []place{
		{columns, 0}, {0, rows}, {-1, 0}, {0, -1}, {-1, -1}, {columns, rows}, {columns - 1, rows}, {columns, rows - 1}, {256, 256}, {1 << 32, 1 << 32},
		{math.MinInt, 0}, {math.MaxInt, 0}, {0, math.MinInt}, {0, math.MaxInt}, {math.MinInt, math.MinInt}, {math.MaxInt, math.MaxInt},
	}
	var off []impl.State
	for _, at := range cells.places() {
		if !cells[at] {
			away = append(away, at)
			continue
		}
		for _, d := range wrongDice() {
			off = append(off, impl.State{X: at.x, Y: at.y, Die: d})
		}
	}
	for _, at := range away {
		off = append(off, state(at.x, at.y, "123456"))
	}
	return off
}

// walkCase is a word on a board, with the states to which its rolls come until one cannot be made.
type walkCase struct {
	board string
	start impl.State
	word  string
	way   []impl.State
}

func (c walkCase) isWhole() bool {
	return len(c.way) == len(c.word)+1
}

// walkCases returns words from all cells of the boards: all short ones, the empty one with them, and long ones, up to MaxRolls, that can be rolled along or stop early or late.
var walkCases = sync.OnceValue(func() []walkCase {
	var cases []walkCase
	for _, b := range sampleBoards() {
		cells := planOf(b)
		for _, s := range startsOn(b) {
			words := append(allWords(3), longestWords()...)
			if cells.moves(s) != "" {
				long := cells.longWalk(s, 60)
				words = append(words, long, long[:59], long[:59]+"n", long[:59]+"e", long[:59]+"s", long[:59]+"w", long[:7], long[:30]+long[:30])
			}
			for _, word := range words {
				cases = append(cases, walkCase{b, s, word, cells.walk(s, word)})
			}
		}
	}
	return cases
})

// wrongWalks returns boards, states and words of which one is invalid; the other two would do for a way.
var wrongWalks = sync.OnceValue(func() []walkCase {
	var cases []walkCase
	for _, b := range wrongBoards() {
		for _, word := range []string{"", "n", "e"} {
			cases = append(cases, walkCase{b, state(0, 0, "123456"), word, nil})
		}
	}
	for _, b := range sampleBoards() {
		for _, s := range statesOff(b) {
			for _, word := range []string{"", "n", "e", "s", "w"} {
				cases = append(cases, walkCase{b, s, word, nil})
			}
		}
		cells := planOf(b)
		for _, s := range startsOn(b) {
			words := wrongWords()
			if cells.moves(s) != "" {
				long := cells.longWalk(s, 61)
				words = append(words, long, long[:5]+"x", long[:1]+" ", long[:1]+"N")
			}
			for _, word := range words {
				cases = append(cases, walkCase{b, s, word, nil})
			}
		}
	}
	return cases
})

// closedTurns returns the turns of dice that closed ways make, each with a closed way, found by a search over cells and turns.
func closedTurns() map[matrix]string {
	type node struct {
		at place
		m  matrix
	}
	words := map[node]string{{place{}, still}: ""}
	for queue := []node{{place{}, still}}; len(queue) > 0; queue = queue[1:] {
		from := queue[0]
		for _, dir := range []byte("nesw") {
			to := node{place{from.at.x + steps[dir].x, from.at.y + steps[dir].y}, rollMatrices[dir].after(from.m)}
			if _, found := words[to]; !found && max(to.at.x, -to.at.x, to.at.y, -to.at.y) <= 4 {
				words[to] = words[from] + string(dir)
				queue = append(queue, to)
			}
		}
	}
	closed := map[matrix]string{}
	for n, word := range words {
		if n.at == (place{}) {
			closed[n.m] = word
		}
	}
	return closed
}

// closedWords returns ways that are closed, up to MaxRolls.
func closedWords() []string {
	words := strings.Fields("ns sn ew we nesw enws nwse nnss ewns nsew wwee nneessww nenwswse")
	for _, word := range closedTurns() {
		words = append(words, word)
	}
	return append(words, strings.Repeat("nesw", 15), strings.Repeat("n", 30)+strings.Repeat("s", 30), strings.Repeat("nnw", 10)+strings.Repeat("sse", 10), strings.Repeat("e", 15)+strings.Repeat("nw", 15)+strings.Repeat("s", 15))
}

// openWords returns ways that are not closed, up to MaxRolls, also such that turn no die.
func openWords() []string {
	return append(strings.Fields("n e s w ne nn ee nnn nnnn eeee ssss wwww nns nee nsw new nnee nses nnww eennss"), strings.Repeat("n", 60), strings.Repeat("ns", 29)+"nn", strings.Repeat("nesw", 14)+"nesn", strings.Repeat("nesw", 14)+"nes")
}

// differentDice returns dice with six different faces.
func differentDice() []impl.Die {
	var dice []impl.Die
	for _, text := range strings.Fields("123456 123546 654321 987654 012345 905172 123459 135790 567890 246801") {
		dice = append(dice, die(text))
	}
	return dice
}

// equalFaced returns dice of which two faces are equal, each two in turn, or more.
func equalFaced() []impl.Die {
	dice := []impl.Die{die("000000"), die("999999"), die("112233"), die("121212"), die("111112")}
	for i := range 6 {
		for j := range i {
			faces := []int{1, 2, 3, 4, 5, 6}
			faces[i] = faces[j]
			dice = append(dice, dieOf(faces))
		}
	}
	return dice
}

// isEvenExchange reports whether an even number of exchanges puts six different numbers into the order of others.
func isEvenExchange(d impl.Die, e impl.Die) bool {
	from, to := facesOf(d), facesOf(e)
	even := true
	for i := range from {
		if j := slices.Index(from, to[i]); j != i {
			from[i], from[j] = from[j], from[i]
			even = !even
		}
	}
	return even
}
