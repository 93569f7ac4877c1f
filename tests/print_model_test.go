package tests

import (
	"math"
	"regexp"
	"slices"
	"strings"
	"sync"

	"loop.example/g01207/impl"
)

// The tests of prints hold the program against sheets: labels read sign by sign, over a plan of the floor
// on which dice are turned in space. Tours are told by counting how often they come to each cell.

var digit = regexp.MustCompile(`[0-9]`)

// floorOf returns a text with floor in place of all digits.
func floorOf(b string) string {
	return digit.ReplaceAllString(b, ".")
}

// sheet is a labelled board: the plan of its floor, and the labels that lie on it.
type sheet struct {
	board  string
	floor  plan
	labels map[place]int
}

func sheetOf(b string) sheet {
	sh := sheet{board: b, floor: planOf(floorOf(b)), labels: map[place]int{}}
	at := place{}
	for _, sign := range []byte(b) {
		if sign == '/' {
			at = place{0, at.y + 1}
			continue
		}
		if digit.Match([]byte{sign}) {
			sh.labels[at] = int(sign - '0')
		}
		at.x++
	}
	return sh
}

// matches reports whether a state on the floor matches.
func (sh sheet) matches(s impl.State) bool {
	label, has := sh.labels[place{s.X, s.Y}]
	return !has || label == s.Die.Top
}

// over returns the states before and behind each roll of a word as far as there is floor and the die matches: none if it does not at first.
func (sh sheet) over(s impl.State, word string) []impl.State {
	way := sh.floor.walk(s, word)
	for i, at := range way {
		if !sh.matches(at) {
			return way[:i]
		}
	}
	return way
}

// moves returns the directions of words of one roll over labels.
func (sh sheet) moves(s impl.State) string {
	return movesOf(s, sh.over)
}

// web returns the web of all states that words over labels make of a state. There has to be a match at first.
func (sh sheet) web(s impl.State) web {
	return spread(sh.board, s, sh.over)
}

// isTour reports whether a word is a tour.
func (sh sheet) isTour(s impl.State, word string) bool {
	way := sh.over(s, word)
	times := map[place]int{}
	for _, at := range way {
		times[place{at.X, at.Y}]++
	}
	for at := range sh.labels {
		if times[at] != 1 {
			return false
		}
	}
	return len(way) == len(word)+1 && len(times) == len(sh.labels)
}

// tours returns all tours from a state in order. Words are made longer from roll to roll as long as they come to no cell twice.
func (sh sheet) tours(s impl.State) []string {
	var tours []string
	words := []string{""}
	for len(words) > 0 {
		word := words[0]
		words = words[1:]
		if sh.isTour(s, word) {
			tours = append(tours, word)
		}
		for _, dir := range []string{"n", "e", "s", "w"} {
			if sh.isBeginning(s, word+dir) {
				words = append(words, word+dir)
			}
		}
	}
	return tours
}

// isBeginning reports whether a word can be rolled over labels, comes to labels alone, and to none twice.
func (sh sheet) isBeginning(s impl.State, word string) bool {
	way := sh.over(s, word)
	seen := map[place]bool{}
	for _, state := range way {
		at := place{state.X, state.Y}
		if _, has := sh.labels[at]; !has || seen[at] {
			return false
		}
		seen[at] = true
	}
	return len(way) == len(word)+1
}

// starts returns the states on labels, in order, of all dice that rotations make of one, from which there is a tour.
func (sh sheet) starts(d impl.Die) []impl.State {
	var starts []impl.State
	for _, at := range sh.floor.places() {
		for _, e := range waysInSpace(d) {
			if s := (impl.State{X: at.x, Y: at.y, Die: e}); len(sh.tours(s)) > 0 {
				starts = append(starts, s)
			}
		}
	}
	return starts
}

// written returns a board on which each state of a way has written a face to its cell, and whether no cell got two different ones.
func written(b string, way []impl.State, face func(impl.Die) int) (string, bool) {
	signs := []byte(b)
	wide := planOf(b).columns() + 1
	same := true
	for _, s := range way {
		i := s.Y*wide + s.X
		sign := byte('0' + face(s.Die))
		same = same && (signs[i] == '.' || signs[i] == sign)
		signs[i] = sign
	}
	return string(signs), same
}

func topOf(d impl.Die) int { return d.Top }

func bottomOf(d impl.Die) int { return d.Bottom }

// labelledBoards returns boards without labels, of labels alone, with some labels, at all limits of sizes, and such with the tops of ways.
var labelledBoards = sync.OnceValue(func() []string {
	boards := append(sampleBoards(), strings.Fields("0 9 5 1. .1 #7 12 1/2 1/#/2 15 51 156 156/.#. 631/.#. 15/.2 1./.2 12/34 00/00 000/000/000 1.1/.#./1.1 0#0/000 ..1.. 5..../.#6#./....1 0123456 789 .1.5.6.")...)
	boards = append(boards, "9/8/7/6/5/4/3", strings.TrimSuffix(strings.Repeat("012345/", 6), "/"), strings.TrimSuffix(strings.Repeat("9999999/", 5), "/"), strings.TrimSuffix(strings.Repeat("#####/#8#7#/", 3), "/"))
	for i, c := range walkCases() {
		if i%311 == 0 {
			b, _ := written(c.board, c.way, topOf)
			boards = append(boards, b)
		}
	}
	slices.Sort(boards)
	return slices.Compact(boards)
})

// wrongLabelled returns texts that are no labelled boards, with and without digits.
func wrongLabelled() []string {
	boards := strings.Fields("1/ /1 1//1 12/3 1/23 12/34/5 1x x1 -1 1- +1 10:1 ,1 1,2 1;2 a1 1A １ ٣ ² 1\x00 \xff1 1\xff .../.#./1 ...1/.#. 12345678 1/1/1/1/1/1/1/1 1234567/1234567/1234567/1234567/1234567/1234567")
	boards = append(boards, " 1", "1 ", "1 2", "1\n", "1\n2", "\t1", strings.Repeat("1", 36), strings.Repeat("1/", 5000), strings.Repeat("7", 5000))
	for _, b := range wrongBoards() {
		if !slices.Contains([]string{"0", "1.", ".1/.."}, b) {
			boards = append(boards, b)
		}
	}
	return boards
}

// sheetCase is a labelled board and a state on it.
type sheetCase struct {
	sheet
	start impl.State
}

// sheetCases returns labelled boards with states on cells with a label and on others, that match and that do not.
var sheetCases = sync.OnceValue(func() []sheetCase {
	var cases []sheetCase
	for _, b := range labelledBoards() {
		sh := sheetOf(b)
		starts := startsOn(floorOf(b))
		for i := 0; i < len(starts); i += len(starts)/5 + 1 {
			s := starts[i]
			cases = append(cases, sheetCase{sh, s})
			if label, has := sh.labels[place{s.X, s.Y}]; has && label != s.Die.Top {
				s.Die.Top = label
				cases = append(cases, sheetCase{sh, s})
			}
		}
	}
	for i, c := range walkCases() {
		if i%157 == 0 {
			b, _ := written(c.board, c.way, topOf)
			cases = append(cases, sheetCase{sheetOf(b), c.start})
		}
	}
	return cases
})

// wrongSheets returns texts and states of which one is invalid.
var wrongSheets = sync.OnceValue(func() []sheetCase {
	var wrong []sheetCase
	for _, b := range wrongLabelled() {
		for _, at := range []place{{0, 0}, {1, 0}, {0, 1}} {
			wrong = append(wrong, sheetCase{sheet{board: b}, state(at.x, at.y, "123456")})
		}
	}
	for _, b := range strings.Fields(". # 1 1# ## 156/.#. 15/#2 123456/......") {
		for _, s := range append(statesOff(floorOf(b)), almostMatching(b)...) {
			wrong = append(wrong, sheetCase{sheet{board: b}, s})
		}
	}
	return wrong
})

// almostMatching returns dice whose tops are beyond their bounds and have the last byte of a label, of floor or of a wall, on all cells and beside them.
func almostMatching(b string) []impl.State {
	var states []impl.State
	for y := -1; y <= planOf(b).rows(); y++ {
		for x := -1; x <= planOf(b).columns(); x++ {
			for _, top := range []int{'.' - '0', '#' - '0', '/' - '0', 257, 261, 1 - 256, 1<<32 + 1, math.MinInt + 1, '.', '#', '1', '5'} {
				states = append(states, impl.State{X: x, Y: y, Die: impl.Die{Top: top, North: 2, East: 3, South: 4, West: 5, Bottom: 6}})
			}
		}
	}
	return states
}

// freshWalk returns a word from a state that comes to at most so many cells, to none twice. A first direction is preferred, which changes with each roll.
func freshWalk(b string, s impl.State, cells int, first int) string {
	floor := planOf(b)
	word := ""
	seen := map[place]bool{{s.X, s.Y}: true}
	for len(word)+1 < cells {
		from := len(word)
		for k := 0; k < 4 && len(word) == from; k++ {
			dir := "nesw"[(first+from*from/3+k)%4]
			way := floor.walk(s, string(dir))
			if to := way[len(way)-1]; !seen[place{to.X, to.Y}] {
				seen[place{to.X, to.Y}] = true
				word += string(dir)
				s = to
			}
		}
		if len(word) == from {
			break
		}
	}
	return word
}

// tourCases returns labelled boards and states from which there are tours, one or several, and some from which there are none, with at most MaxTourCells labels.
var tourCases = sync.OnceValue(func() []sheetCase {
	var cases []sheetCase
	for _, b := range sampleBoards() {
		starts := startsOn(b)
		for i := 0; i < len(starts); i += len(starts)/4 + 1 {
			for first, cells := range []int{12, 12, 7, 3, 1} {
				labelled, _ := written(b, planOf(b).walk(starts[i], freshWalk(b, starts[i], cells, first)), topOf)
				cases = append(cases, sheetCase{sheetOf(labelled), starts[i]})
			}
		}
	}
	for _, b := range strings.Fields("0 0. 00 0.0 0#0 00/00 000/.0. 000/000 000/000/000 0000/0000/0000 000000/000000 .000./.0.0./.000. .../.0./... 0#00/000# ./# 000/001 01") {
		for _, at := range sheetOf(b).floor.places() {
			cases = append(cases, sheetCase{sheetOf(b), state(at.x, at.y, "000000")}, sheetCase{sheetOf(b), state(at.x, at.y, "000001")})
		}
	}
	return slices.DeleteFunc(cases, func(c sheetCase) bool { return !c.floor[place{c.start.X, c.start.Y}] })
})

// crowdedBoards returns labelled boards of more than MaxTourCells labels, 13 of them and more, most of them with a tour over all labels from the die 123456 or 000000 in their corner.
func crowdedBoards() []string {
	boards := strings.Fields("000000./000000. 0000000/000000. 0000000/.000000 000/000/000/000/0.. 00000/00000/00000 0000/000./0000/00.. 000000/000000/000000/000000/000000/000000")
	for _, c := range []struct{ board, word string }{
		{floorBoard(7, 2), "eeeeeeswwwww"}, {floorBoard(7, 2), "eeeeeeswwwwww"}, {floorBoard(6, 6), "eeeeeswwwwws"}, {floorBoard(7, 5), strings.Repeat("eeeeeeswwwwwws", 2) + "eeeeee"},
	} {
		b, _ := written(c.board, planOf(c.board).walk(state(0, 0, "123456"), c.word), topOf)
		boards = append(boards, b)
	}
	return slices.DeleteFunc(boards, func(b string) bool { return len(sheetOf(b).labels) <= 12 })
}
