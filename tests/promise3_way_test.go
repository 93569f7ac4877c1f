package tests

import (
	"fmt"
	"slices"
	"strings"
	"testing"

	"loop.example/g01207/impl"
)

func TestPromise3Constants(t *testing.T) {
	expectEqual(t, "MaxCost", impl.MaxCost, 1000)
}

func TestPromise3CountReached(t *testing.T) {
	for b, want := range map[string]int{".": 1, ".#": 1, "..": 2, "../..": 12, ".../.#.": 5, floorBoard(1, 7): 7, floorBoard(7, 1): 7, floorBoard(6, 6): 432, ".#./###/.#.": 1} {
		got, ok := impl.CountReached(b, state(0, 0, "123456"))
		expectEqual(t, "CountReached "+b, got, want)
		expectEqual(t, "CountReached succeeds", ok, true)
	}
	for text, want := range map[string]int{"123456": 432, "111111": 36, "123231": 108, "112233": 432, "123321": 432, "111112": 216, "211111": 216} {
		got, ok := impl.CountReached(floorBoard(6, 6), state(3, 2, text))
		expectEqual(t, "CountReached with the equal faces of "+text, got, want)
		expectEqual(t, "CountReached succeeds", ok, true)
	}
	for _, w := range webs() {
		got, ok := impl.CountReached(w.board, w.start)
		expectEqual(t, fmt.Sprint("CountReached ", w.board, w.start), got, len(w.states))
		expectEqual(t, "CountReached succeeds", ok, true)
	}
	for _, w := range wrongStarts() {
		got, ok := impl.CountReached(w.board, w.start)
		expectFailure(t, fmt.Sprintf("CountReached %.60q %v", w.board, w.start), got, ok)
	}
}

func TestPromise3IsReached(t *testing.T) {
	for _, w := range webs() {
		for _, target := range w.targets() {
			got, ok := impl.IsReached(w.board, w.start, target)
			expectEqual(t, fmt.Sprint("IsReached ", w.board, w.start, target), got, true)
			expectEqual(t, "IsReached succeeds", ok, true)
		}
		for _, target := range w.unreached() {
			got, ok := impl.IsReached(w.board, w.start, target)
			expectEqual(t, fmt.Sprint("IsReached ", w.board, w.start, target), got, false)
			expectEqual(t, "IsReached succeeds", ok, true)
		}
	}
}

// Words of rolls reach what they come to, also words of MaxRolls rolls.
func TestPromise3IsReachedBehindWords(t *testing.T) {
	for i, c := range walkCases() {
		if i%211 != 0 {
			continue
		}
		got, ok := impl.IsReached(c.board, c.start, c.way[len(c.way)-1])
		expectEqual(t, fmt.Sprint("IsReached behind ", c.board, c.start, c.word), got, true)
		expectEqual(t, "IsReached succeeds", ok, true)
	}
}

// targetCall is a function of two states, made to tell its result as a text.
type targetCall func(b string, s impl.State, t impl.State) (string, bool)

var targetCalls = map[string]targetCall{
	"IsReached":     told(impl.IsReached),
	"DistanceTo":    told(impl.DistanceTo),
	"ShortestWay":   told(impl.ShortestWay),
	"CountShortest": told(impl.CountShortest),
	"LeastSum":      told(impl.LeastSum),
}

func told[T comparable](call func(b string, s impl.State, t impl.State) (T, bool)) targetCall {
	return func(b string, s impl.State, t impl.State) (string, bool) {
		got, ok := call(b, s, t)
		return shown(got), ok
	}
}

// shown returns a text that is empty for the zero value alone.
func shown[T comparable](value T) string {
	var zero T
	if value == zero {
		return ""
	}
	return fmt.Sprint(value)
}

func TestPromise3TargetsThatAreNone(t *testing.T) {
	for name, call := range targetCalls {
		for _, w := range wrongStarts() {
			for _, target := range []impl.State{w.start, state(0, 0, "123456")} {
				got, ok := call(w.board, w.start, target)
				expectFailure(t, fmt.Sprintf("%s from %.60q %v", name, w.board, w.start), got, ok)
			}
		}
		for _, b := range strings.Fields(". ..  .# ../.. .../.#. #./.# ./#/.") {
			for _, s := range startsOn(b) {
				for _, target := range statesOff(b) {
					got, ok := call(b, s, target)
					expectFailure(t, fmt.Sprint(name, " to ", b, s, target), got, ok)
				}
			}
		}
	}
}

func TestPromise3TargetsThatAreNotReached(t *testing.T) {
	count := 0
	for name, call := range targetCalls {
		if name == "IsReached" {
			continue
		}
		for _, w := range webs() {
			for _, target := range w.unreached() {
				got, ok := call(w.board, w.start, target)
				expectFailure(t, fmt.Sprint(name, " ", w.board, w.start, target), got, ok)
				count++
			}
		}
		for _, target := range []impl.State{state(2, 0, "123456"), state(0, 0, "413652"), state(1, 0, "123456"), state(1, 0, "523461")} {
			got, ok := call("..#", state(0, 0, "123456"), target)
			expectFailure(t, fmt.Sprint(name, " on two cells ", target), got, ok)
			got, ok = call("..#.", state(0, 0, "123456"), impl.State{X: 3, Die: target.Die})
			expectFailure(t, fmt.Sprint(name, " behind a wall ", target), got, ok)
		}
	}
	expectEqual(t, "states that are not reached are tried", count > 1000, true)
}

func TestPromise3DistanceTo(t *testing.T) {
	for _, w := range webs() {
		for _, target := range w.targets() {
			_, want, _ := w.best(isThat(target), noPrice)
			got, ok := impl.DistanceTo(w.board, w.start, target)
			expectEqual(t, fmt.Sprint("DistanceTo ", w.board, w.start, target), got, want.rolls)
			expectEqual(t, "DistanceTo succeeds", ok, true)
			back, ok := impl.DistanceTo(w.board, target, w.start)
			expectEqual(t, fmt.Sprint("DistanceTo and back ", w.board, w.start, target), back, got)
			expectEqual(t, "DistanceTo succeeds", ok, true)
		}
		got, ok := impl.DistanceTo(w.board, w.start, w.start)
		expectEqual(t, "DistanceTo itself", got, 0)
		expectEqual(t, "DistanceTo succeeds", ok, true)
	}
}

func TestPromise3ShortestWay(t *testing.T) {
	several := 0
	for _, w := range webs() {
		for _, target := range w.targets() {
			what := fmt.Sprint("ShortestWay ", w.board, w.start, target)
			want, took, count := w.best(isThat(target), noPrice)
			got, ok := impl.ShortestWay(w.board, w.start, target)
			if took.rolls > 60 {
				expectFailure(t, what, got, ok)
				continue
			}
			expectEqual(t, what, got, want)
			expectEqual(t, what+" succeeds", ok, true)
			behind, ok := impl.RollAlong(w.board, w.start, got)
			expectEqual(t, "the state behind "+what, behind, target)
			expectEqual(t, "RollAlong succeeds", ok, true)
			if count > 1 {
				several++
			}
		}
	}
	expectEqual(t, "states with several shortest words are tried", several > 100, true)
}

func TestPromise3CountShortest(t *testing.T) {
	for _, w := range webs() {
		for _, target := range w.targets() {
			_, _, want := w.best(isThat(target), noPrice)
			got, ok := impl.CountShortest(w.board, w.start, target)
			expectEqual(t, fmt.Sprint("CountShortest ", w.board, w.start, target), got, want)
			expectEqual(t, "CountShortest succeeds", ok, true)
		}
	}
	for target, want := range map[impl.State]int{state(5, 5, "145236"): 0, state(0, 0, "111111"): 1, state(5, 5, "111111"): 252, state(3, 2, "111111"): 10} {
		got, ok := impl.CountShortest(floorBoard(6, 6), state(0, 0, "111111"), target)
		expectEqual(t, fmt.Sprint("CountShortest of one number ", target), got, want)
		expectEqual(t, "CountShortest succeeds", ok, want > 0)
	}
}

// Around four cells there are two ways to what lies opposite, six rolls away, and one to all else.
func TestPromise3FourCells(t *testing.T) {
	start := state(0, 0, "123456")
	way := planOf("../..").walk(start, "eswneswneswn")
	for i, target := range way {
		distance, ok := impl.DistanceTo("../..", start, target)
		expectEqual(t, fmt.Sprint("DistanceTo on four cells ", i), distance, min(i, 12-i))
		expectEqual(t, "DistanceTo succeeds", ok, true)
		count, ok := impl.CountShortest("../..", start, target)
		expectEqual(t, fmt.Sprint("CountShortest on four cells ", i), count == 2, i == 6)
		expectEqual(t, "CountShortest succeeds", ok, true)
		word, ok := impl.ShortestWay("../..", start, target)
		want := "eswnes"[:min(i, 6)]
		if i > 6 {
			want = "senwse"[:12-i]
		}
		expectEqual(t, fmt.Sprint("ShortestWay on four cells ", i), word, want)
		expectEqual(t, "ShortestWay succeeds", ok, true)
	}
	layers, ok := impl.LayersOf("../..", start)
	expectList(t, "LayersOf four cells", layers, ok, []int{1, 2, 2, 2, 2, 2, 1})
	farthest, distance, ok := impl.FarthestState("../..", start)
	expectEqual(t, "FarthestState of four cells", farthest, way[6])
	expectEqual(t, "the distance of FarthestState", distance, 6)
	expectEqual(t, "FarthestState succeeds", ok, true)
}

// All words are tried: the first one that comes to a state is its shortest way, and those of its length are counted.
func TestPromise3AllWordsToStates(t *testing.T) {
	for _, c := range triedWays() {
		first, count, least := map[impl.State]string{}, map[impl.State]int{}, map[impl.State]int{}
		for _, w := range wordsFrom(c.board, c.start, c.rolls) {
			if _, found := first[w.end]; !found {
				first[w.end] = w.word
				least[w.end] = w.cost
			}
			if len(w.word) == len(first[w.end]) {
				count[w.end]++
			}
			least[w.end] = min(least[w.end], w.cost)
		}
		for target, want := range first {
			what := fmt.Sprint(c.board, c.start, target)
			word, ok := impl.ShortestWay(c.board, c.start, target)
			expectEqual(t, "ShortestWay "+what, word, want)
			expectEqual(t, "ShortestWay succeeds", ok, true)
			distance, ok := impl.DistanceTo(c.board, c.start, target)
			expectEqual(t, "DistanceTo "+what, distance, len(want))
			expectEqual(t, "DistanceTo succeeds", ok, true)
			counted, ok := impl.CountShortest(c.board, c.start, target)
			expectEqual(t, "CountShortest "+what, counted, count[target])
			expectEqual(t, "CountShortest succeeds", ok, true)
			sum, ok := impl.LeastSum(c.board, c.start, target)
			expectEqual(t, "LeastSum "+what, sum, least[target])
			expectEqual(t, "LeastSum succeeds", ok, true)
		}
		reached, ok := impl.CountReached(c.board, c.start)
		expectEqual(t, fmt.Sprint("CountReached ", c.board, c.start), reached, len(first))
		expectEqual(t, "CountReached succeeds", ok, true)
	}
}

// All words are tried: the first one to a cell, or to a top on it, is the way there, and the cheapest, of these the first one, is the cheapest way.
func TestPromise3AllWordsToCells(t *testing.T) {
	for _, c := range triedWays() {
		words := wordsFrom(c.board, c.start, c.rolls)
		for _, at := range planOf(c.board).places() {
			what := fmt.Sprint(c.board, c.start, at)
			first := slices.IndexFunc(words, func(w endedWord) bool { return isOn(at)(w.end) })
			expectWord(t, "WayToCell "+what, words, first, func() (string, bool) { return impl.WayToCell(c.board, c.start, at.x, at.y) })
			for top := range 10 {
				toTop := slices.IndexFunc(words, func(w endedWord) bool { return isTopOn(at, top)(w.end) })
				expectWord(t, fmt.Sprint("WayToTop ", what, top), words, toTop, func() (string, bool) { return impl.WayToTop(c.board, c.start, at.x, at.y, top) })
			}
			cheapest, cost := first, 0
			for i, w := range words {
				if isOn(at)(w.end) && w.cost < words[cheapest].cost {
					cheapest = i
				}
			}
			if cheapest >= 0 {
				cost = words[cheapest].cost
			}
			expectWord(t, "CheapestWay "+what, words, cheapest, func() (string, bool) {
				word, got, ok := impl.CheapestWay(c.board, c.start, at.x, at.y)
				expectEqual(t, "the cost of CheapestWay "+what, got, cost)
				return word, ok
			})
		}
	}
}

// expectWord checks that a call returned the word with an index, or that it failed if the index is -1.
func expectWord(t *testing.T, what string, words []endedWord, i int, call func() (string, bool)) {
	t.Helper()
	got, ok := call()
	if i < 0 {
		expectFailure(t, what, got, ok)
		return
	}
	expectEqual(t, what, got, words[i].word)
	expectEqual(t, what+" succeeds", ok, true)
}

// farStates returns the states of a web that are just so many rolls away.
func farStates(w web, rolls int) []impl.State {
	efforts := w.efforts(isThat(w.start), noPrice)
	var far []impl.State
	for i, e := range efforts {
		if e.rolls == rolls {
			far = append(far, w.states[i])
		}
	}
	return far
}

func TestPromise3WaysOfMaxRolls(t *testing.T) {
	w := webOf(".....##/.##.#../....#../.###.#./.......", state(4, 0, "123456"))
	for _, rolls := range []int{59, 60} {
		far := farStates(w, rolls)
		expectEqual(t, fmt.Sprint("there are states so far away ", rolls), len(far) > 0, true)
		for _, target := range far {
			want, _, _ := w.best(isThat(target), noPrice)
			got, ok := impl.ShortestWay(w.board, w.start, target)
			expectEqual(t, fmt.Sprint("ShortestWay of the length ", rolls), got, want)
			expectEqual(t, "ShortestWay succeeds", ok && len(got) == rolls, true)
		}
	}
	for _, rolls := range []int{61, 62, 70} {
		far := farStates(w, rolls)
		expectEqual(t, fmt.Sprint("there are states so far away ", rolls), len(far) > 0, true)
		for _, target := range far {
			word, ok := impl.ShortestWay(w.board, w.start, target)
			expectFailure(t, fmt.Sprint("ShortestWay of more than MaxRolls rolls ", rolls), word, ok)
			got, ok := impl.DistanceTo(w.board, w.start, target)
			expectEqual(t, "DistanceTo beyond MaxRolls", got, rolls)
			expectEqual(t, "DistanceTo succeeds", ok, true)
			_, _, want := w.best(isThat(target), noPrice)
			count, ok := impl.CountShortest(w.board, w.start, target)
			expectEqual(t, "CountShortest beyond MaxRolls", count, want)
			expectEqual(t, "CountShortest succeeds", ok, true)
			reached, ok := impl.IsReached(w.board, w.start, target)
			expectEqual(t, "IsReached beyond MaxRolls", reached && ok, true)
			_, ok = impl.LeastSum(w.board, w.start, target)
			expectEqual(t, "LeastSum beyond MaxRolls succeeds", ok, true)
		}
	}
	_, distance, ok := impl.FarthestState(w.board, w.start)
	expectEqual(t, "FarthestState beyond MaxRolls", distance, 70)
	layers, fine := impl.LayersOf(w.board, w.start)
	expectEqual(t, "LayersOf beyond MaxRolls", len(layers), 71)
	expectEqual(t, "FarthestState and LayersOf succeed", ok && fine, true)
}

func TestPromise3WayToTop(t *testing.T) {
	for top, want := range map[int]string{1: "", 5: "eswn", 2: "senw"} {
		got, ok := impl.WayToTop("../..", state(0, 0, "123456"), 0, 0, top)
		expectEqual(t, fmt.Sprint("WayToTop back to 0 0 ", top), got, want)
		expectEqual(t, "WayToTop succeeds", ok, true)
	}
	missing := 0
	for _, w := range webs() {
		for _, at := range w.cells() {
			for top := range 10 {
				what := fmt.Sprint("WayToTop ", w.board, w.start, at, top)
				want, took, count := w.best(isTopOn(at, top), noPrice)
				got, ok := impl.WayToTop(w.board, w.start, at.x, at.y, top)
				if took.rolls > 60 {
					expectFailure(t, what, got, ok)
					missing++
					continue
				}
				expectEqual(t, what, got, want)
				expectEqual(t, what+" succeeds", ok && count > 0, true)
				behind, ok := impl.RollAlong(w.board, w.start, got)
				expectEqual(t, "the state behind "+what, ok && isTopOn(at, top)(behind), true)
			}
		}
	}
	expectEqual(t, "tops that no word brings to a cell are tried", missing > 1000, true)
}

func TestPromise3WayToTopOfMaxRolls(t *testing.T) {
	w := webOf(longBoard, state(0, 3, "123456"))
	want, took, _ := w.best(isTopOn(place{5, 2}, 2), noPrice)
	got, ok := impl.WayToTop(longBoard, w.start, 5, 2, 2)
	expectEqual(t, "WayToTop of MaxRolls rolls", got, want)
	expectEqual(t, "rolls of it", took.rolls, 60)
	expectEqual(t, "WayToTop succeeds", ok, true)
	w = webOf(longBoard, state(0, 4, "123456"))
	_, took, _ = w.best(isTopOn(place{5, 2}, 1), noPrice)
	got, ok = impl.WayToTop(longBoard, w.start, 5, 2, 1)
	expectEqual(t, "rolls to the top 1", took.rolls, 61)
	expectFailure(t, "WayToTop of one roll more", got, ok)
	tops, ok := impl.TopsAt(longBoard, w.start, 5, 2)
	expectEqual(t, "TopsAt has the top that is too far", ok && slices.Contains(tops, 1), true)
}

// cellCalls are the functions of a cell that return a word, each made to tell the word alone.
var cellCalls = map[string]func(b string, s impl.State, at place) (string, bool){
	"WayToTop": func(b string, s impl.State, at place) (string, bool) {
		return impl.WayToTop(b, s, at.x, at.y, s.Die.Top)
	},
	"WayToCell": func(b string, s impl.State, at place) (string, bool) {
		return impl.WayToCell(b, s, at.x, at.y)
	},
	"CheapestWay": func(b string, s impl.State, at place) (string, bool) {
		word, cost, ok := impl.CheapestWay(b, s, at.x, at.y)
		return word + shown(cost), ok
	},
}

func TestPromise3CellsThatAreNone(t *testing.T) {
	for name, call := range cellCalls {
		for _, w := range wrongStarts() {
			for _, at := range []place{{w.start.X, w.start.Y}, {0, 0}, {1, 0}} {
				got, ok := call(w.board, w.start, at)
				expectFailure(t, fmt.Sprintf("%s from %.60q %v %v", name, w.board, w.start, at), got, ok)
			}
		}
		for _, b := range sampleBoards() {
			for _, s := range startsOn(b) {
				for _, at := range wrongCells(b) {
					if _, found := planOf(b)[at]; found {
						continue
					}
					got, ok := call(b, s, at)
					expectFailure(t, fmt.Sprint(name, " to ", b, s, at), got, ok)
				}
			}
		}
	}
}

func TestPromise3CellsWithoutAWord(t *testing.T) {
	for name, call := range cellCalls {
		for _, c := range []struct {
			board string
			at    place
		}{{".#", place{1, 0}}, {".#.", place{2, 0}}, {"./#", place{0, 1}}, {"./#/.", place{0, 2}}, {".../.#.", place{1, 1}}, {".#./###/.#.", place{2, 2}}, {".#/#.", place{1, 1}}} {
			got, ok := call(c.board, state(0, 0, "123456"), c.at)
			expectFailure(t, fmt.Sprint(name, " ", c), got, ok)
		}
	}
}

func TestPromise3TopsThatAreNone(t *testing.T) {
	for _, b := range strings.Fields(". .. ../.. .../.#.") {
		for _, s := range startsOn(b) {
			for _, top := range []int{-1 << 63, -1, 10, 11, 256 + s.Die.Top, 1<<32 + s.Die.Top, 1<<63 - 1} {
				got, ok := impl.WayToTop(b, s, s.X, s.Y, top)
				expectFailure(t, fmt.Sprint("WayToTop ", b, s, top), got, ok)
			}
		}
	}
}

func TestPromise3WayToCell(t *testing.T) {
	for at, want := range map[place]string{{0, 0}: "", {1, 0}: "e", {2, 0}: "ee", {0, 1}: "s", {2, 1}: "ees"} {
		got, ok := impl.WayToCell(".../.#.", state(0, 0, "123456"), at.x, at.y)
		expectEqual(t, fmt.Sprint("WayToCell ", at), got, want)
		expectEqual(t, "WayToCell succeeds", ok, true)
	}
	for start, want := range map[place]string{{0, 0}: "eeeeesssss", {5, 5}: "", {5, 0}: "sssss", {0, 5}: "eeeee", {2, 3}: "eeess"} {
		got, ok := impl.WayToCell(floorBoard(6, 6), state(start.x, start.y, "123456"), 5, 5)
		expectEqual(t, fmt.Sprint("WayToCell 5 5 from ", start), got, want)
		expectEqual(t, "WayToCell succeeds", ok, true)
	}
	got, ok := impl.WayToCell(floorBoard(6, 6), state(4, 4, "123456"), 1, 2)
	expectEqual(t, "WayToCell to the north and west", got, "nnwww")
	expectEqual(t, "WayToCell succeeds", ok, true)
	for _, w := range webs() {
		for _, at := range w.cells() {
			what := fmt.Sprint("WayToCell ", w.board, w.start, at)
			want, _, count := w.best(isOn(at), noPrice)
			got, ok := impl.WayToCell(w.board, w.start, at.x, at.y)
			if count == 0 {
				expectFailure(t, what, got, ok)
				continue
			}
			expectEqual(t, what, got, want)
			expectEqual(t, what+" succeeds", ok, true)
		}
	}
}

func TestPromise3DiceAt(t *testing.T) {
	got, ok := impl.DiceAt("..", state(0, 0, "123456"), 1, 0)
	expectList(t, "DiceAt 1 0 of two cells", got, ok, []impl.Die{die("521463")})
	got, ok = impl.DiceAt("../..", state(0, 0, "123456"), 0, 0)
	expectList(t, "DiceAt 0 0 of four cells", got, ok, []impl.Die{die("123456"), die("256314"), die("514623")})
	got, ok = impl.DiceAt("../..", state(0, 0, "777777"), 1, 1)
	expectList(t, "DiceAt with equal faces", got, ok, []impl.Die{die("777777")})
	for _, w := range webs() {
		for _, at := range w.cells() {
			got, ok := impl.DiceAt(w.board, w.start, at.x, at.y)
			expectList(t, fmt.Sprint("DiceAt ", w.board, w.start, at), got, ok, w.diceOn(at))
		}
	}
}

// Just half of the dice that rolls make come to a cell of a board without walls.
func TestPromise3DiceAtAllFloor(t *testing.T) {
	for _, at := range []place{{0, 0}, {3, 3}, {5, 5}, {5, 0}} {
		dice, ok := impl.DiceAt(floorBoard(6, 6), state(3, 3, "123546"), at.x, at.y)
		expectEqual(t, fmt.Sprint("dice at ", at), len(dice), 12)
		expectEqual(t, "DiceAt succeeds", ok, true)
		for _, d := range dice {
			even, fine := impl.IsEvenDie(die("123546"), d)
			expectEqual(t, fmt.Sprint("IsEvenDie of ", d, at), even, (at.x+at.y)%2 == 0)
			expectEqual(t, "IsEvenDie succeeds", fine, true)
		}
	}
}

func TestPromise3TopsAt(t *testing.T) {
	got, ok := impl.TopsAt("../..", state(0, 0, "123456"), 0, 0)
	expectList(t, "TopsAt 0 0 of four cells", got, ok, []int{1, 2, 5})
	got, ok = impl.TopsAt("..", state(0, 0, "123456"), 1, 0)
	expectList(t, "TopsAt 1 0 of two cells", got, ok, []int{5})
	got, ok = impl.TopsAt(floorBoard(6, 6), state(0, 0, "909090"), 4, 4)
	expectList(t, "TopsAt with equal faces", got, ok, []int{0, 9})
	got, ok = impl.TopsAt(floorBoard(6, 6), state(0, 0, "654321"), 1, 4)
	expectList(t, "TopsAt of six faces", got, ok, []int{1, 2, 3, 4, 5, 6})
	for _, w := range webs() {
		for _, at := range w.cells() {
			got, ok := impl.TopsAt(w.board, w.start, at.x, at.y)
			expectList(t, fmt.Sprint("TopsAt ", w.board, w.start, at), got, ok, w.topsOn(at))
		}
	}
}

// Walls and cells that no word leads to are cells: the lists of what lies there are empty.
func TestPromise3NothingAt(t *testing.T) {
	for _, c := range []struct {
		board string
		at    place
	}{{".#", place{1, 0}}, {".#.", place{2, 0}}, {"./#", place{0, 1}}, {"./#/.", place{0, 2}}, {".../.#.", place{1, 1}}, {".#./###/.#.", place{2, 2}}} {
		dice, ok := impl.DiceAt(c.board, state(0, 0, "123456"), c.at.x, c.at.y)
		expectList(t, fmt.Sprint("DiceAt ", c), dice, ok, nil)
		tops, ok := impl.TopsAt(c.board, state(0, 0, "123456"), c.at.x, c.at.y)
		expectList(t, fmt.Sprint("TopsAt ", c), tops, ok, nil)
	}
}

func TestPromise3DiceAndTopsFail(t *testing.T) {
	for _, w := range wrongStarts() {
		for _, at := range []place{{w.start.X, w.start.Y}, {0, 0}} {
			dice, ok := impl.DiceAt(w.board, w.start, at.x, at.y)
			expectNoList(t, fmt.Sprintf("DiceAt %.60q %v", w.board, w.start), dice, ok)
			tops, ok := impl.TopsAt(w.board, w.start, at.x, at.y)
			expectNoList(t, fmt.Sprintf("TopsAt %.60q %v", w.board, w.start), tops, ok)
		}
	}
	for _, b := range sampleBoards() {
		for _, s := range startsOn(b) {
			for _, at := range wrongCells(b) {
				if _, found := planOf(b)[at]; found {
					continue
				}
				dice, ok := impl.DiceAt(b, s, at.x, at.y)
				expectNoList(t, fmt.Sprint("DiceAt ", b, s, at), dice, ok)
				tops, ok := impl.TopsAt(b, s, at.x, at.y)
				expectNoList(t, fmt.Sprint("TopsAt ", b, s, at), tops, ok)
			}
		}
	}
}

func TestPromise3LayersOf(t *testing.T) {
	for b, want := range map[string][]int{".": {1}, ".#": {1}, "..": {1, 1}, ".../.#.": {1, 2, 1, 1}, floorBoard(7, 1): {1, 1, 1, 1, 1, 1, 1}} {
		got, ok := impl.LayersOf(b, state(0, 0, "123456"))
		expectList(t, "LayersOf "+b, got, ok, want)
	}
	got, ok := impl.LayersOf(floorBoard(6, 6), state(0, 0, "111111"))
	expectList(t, "LayersOf with equal faces", got, ok, []int{1, 2, 3, 4, 5, 6, 5, 4, 3, 2, 1})
	for _, w := range webs() {
		got, ok := impl.LayersOf(w.board, w.start)
		want, _ := w.layers()
		expectList(t, fmt.Sprint("LayersOf ", w.board, w.start), got, ok, want)
	}
	for _, w := range wrongStarts() {
		got, ok := impl.LayersOf(w.board, w.start)
		expectNoList(t, fmt.Sprintf("LayersOf %.60q %v", w.board, w.start), got, ok)
	}
}

func TestPromise3FarthestState(t *testing.T) {
	for _, c := range []struct {
		board    string
		start    impl.State
		farthest impl.State
		distance int
	}{
		{".", state(0, 0, "123456"), state(0, 0, "123456"), 0},
		{"#.#", state(1, 0, "123456"), state(1, 0, "123456"), 0},
		{"..", state(0, 0, "123456"), state(1, 0, "521463"), 1},
		{"...", state(1, 0, "123456"), state(0, 0, "326415"), 1},
		{"./././.", state(0, 1, "123456"), state(0, 3, "643251"), 2},
		{"./././.", state(0, 2, "123456"), state(0, 0, "643251"), 2},
		{"././.", state(0, 1, "123456"), state(0, 0, "413652"), 1},
		{".../.##/.##", state(0, 0, "123456"), state(2, 0, "625431"), 2},
		{"##./##./...", state(2, 2, "123456"), state(2, 0, "643251"), 2},
		{"../..", state(0, 0, "777777"), state(1, 1, "777777"), 2},
	} {
		got, distance, ok := impl.FarthestState(c.board, c.start)
		expectEqual(t, fmt.Sprint("FarthestState ", c.board, c.start), got, c.farthest)
		expectEqual(t, fmt.Sprint("its distance ", c.board, c.start), distance, c.distance)
		expectEqual(t, "FarthestState succeeds", ok, true)
	}
	cells, ways := 0, 0
	for _, w := range webs() {
		layers, last := w.layers()
		got, distance, ok := impl.FarthestState(w.board, w.start)
		expectEqual(t, fmt.Sprint("FarthestState ", w.board, w.start), got, last[0])
		expectEqual(t, fmt.Sprint("its distance ", w.board, w.start), distance, len(layers)-1)
		expectEqual(t, "FarthestState succeeds", ok, true)
		if len(last) > 1 && isOn(place{last[0].X, last[0].Y})(last[1]) {
			ways++
		} else if len(last) > 1 {
			cells++
		}
	}
	expectEqual(t, "states as far away on other cells, and others on the same one, are tried", cells > 5 && ways > 5, true)
	for _, w := range wrongStarts() {
		got, distance, ok := impl.FarthestState(w.board, w.start)
		expectFailure(t, fmt.Sprintf("FarthestState %.60q %v", w.board, w.start), got, ok)
		expectEqual(t, "the distance of no state", distance, 0)
	}
}

func TestPromise3LeastSum(t *testing.T) {
	for word, want := range map[string]int{"": 0, "e": 5, "ee": 11, "ees": 13, "s": 2, "eesn": 11} {
		target, _ := impl.RollAlong(".../.#.", state(0, 0, "123456"), word)
		got, ok := impl.LeastSum(".../.#.", state(0, 0, "123456"), target)
		expectEqual(t, "LeastSum behind "+word, got, want)
		expectEqual(t, "LeastSum succeeds", ok, true)
	}
	dear := dearWay()
	sum, ok := impl.LeastSum(dear.board, dear.start, state(3, 1, "999898"))
	expectEqual(t, "LeastSum of a dear way", sum, 544)
	expectEqual(t, "LeastSum succeeds", ok, true)
	longer := 0
	for _, w := range webs() {
		for _, target := range w.targets() {
			_, want, _ := w.best(isThat(target), topPrice)
			_, short, _ := w.best(isThat(target), noPrice)
			got, ok := impl.LeastSum(w.board, w.start, target)
			expectEqual(t, fmt.Sprint("LeastSum ", w.board, w.start, target), got, want.cost)
			expectEqual(t, "LeastSum succeeds", ok, true)
			if want.rolls > short.rolls {
				longer++
			}
		}
	}
	expectEqual(t, "cheapest words that are not shortest are tried", longer > 100, true)
}

func TestPromise3CheapestWay(t *testing.T) {
	for _, c := range []struct {
		board string
		text  string
		at    place
		word  string
		cost  int
	}{
		{"../..", "123456", place{0, 0}, "", 0}, {"../..", "123456", place{1, 0}, "e", 5}, {"../..", "123456", place{1, 1}, "es", 7}, {"../..", "123456", place{0, 1}, "s", 2},
		{".../.#.", "123456", place{2, 1}, "ees", 13},
		{"...", "000009", place{2, 0}, "ee", 9}, {".../...", "000009", place{2, 0}, "sene", 0}, {".../.../...", "000009", place{2, 2}, "eswsee", 0},
		{floorBoard(6, 6), "000000", place{5, 5}, "eeeeesssss", 0}, {floorBoard(6, 6), "999999", place{5, 5}, "eeeeesssss", 90},
	} {
		word, cost, ok := impl.CheapestWay(c.board, state(0, 0, c.text), c.at.x, c.at.y)
		expectEqual(t, fmt.Sprint("CheapestWay ", c), word, c.word)
		expectEqual(t, fmt.Sprint("the cost of CheapestWay ", c), cost, c.cost)
		expectEqual(t, "CheapestWay succeeds", ok, true)
	}
	longer, several := 0, 0
	for _, w := range webs() {
		for _, at := range w.cells() {
			what := fmt.Sprint("CheapestWay ", w.board, w.start, at)
			want, took, count := w.best(isOn(at), topPrice)
			word, cost, ok := impl.CheapestWay(w.board, w.start, at.x, at.y)
			if took.rolls > 60 {
				expectFailure(t, what, word, ok)
				expectEqual(t, "the cost of no way", cost, 0)
				continue
			}
			expectEqual(t, what, word, want)
			expectEqual(t, "the cost of "+what, cost, took.cost)
			expectEqual(t, what+" succeeds", ok, true)
			sum, _ := impl.SumOfTops(w.board, w.start, word)
			expectEqual(t, "the sum of tops behind the rolls of "+what, sum-w.start.Die.Top, cost)
			if _, short, _ := w.best(isOn(at), noPrice); took.rolls > short.rolls {
				longer++
			}
			if count > 1 {
				several++
			}
		}
	}
	expectEqual(t, "cheapest words that are not shortest, and several ones, are tried", longer > 40 && several > 40, true)
}

func TestPromise3CheapestWayOfMaxRolls(t *testing.T) {
	for i, c := range []struct {
		at    place
		rolls int
	}{{place{0, 5}, 60}, {place{0, 6}, 61}, {place{0, 5}, 63}} {
		w := wideWays()[i]
		want, took, _ := w.best(isOn(c.at), topPrice)
		expectEqual(t, "rolls of the cheapest way", took.rolls, c.rolls)
		word, cost, ok := impl.CheapestWay(w.board, w.start, c.at.x, c.at.y)
		if c.rolls > 60 {
			expectFailure(t, "CheapestWay of more than MaxRolls rolls", word, ok)
			expectEqual(t, "the cost of no way", cost, 0)
			short, ok := impl.WayToCell(w.board, w.start, c.at.x, c.at.y)
			expectEqual(t, "WayToCell to the same cell succeeds", ok && len(short) < 60, true)
			continue
		}
		expectEqual(t, "CheapestWay of MaxRolls rolls", word, want)
		expectEqual(t, "its cost", cost, took.cost)
		expectEqual(t, "CheapestWay succeeds", ok, true)
	}
}

// No cheapest way costs more than another word: than those that roll to the cell at once, and than the cheapest ones to each state there.
func TestPromise3CheapestCostLeast(t *testing.T) {
	for _, b := range []string{"../..", ".../.#.", ".../...", "..../.##./...."} {
		for _, s := range startsOn(b) {
			w := webOf(b, s)
			for _, at := range w.cells() {
				_, cost, ok := impl.CheapestWay(b, s, at.x, at.y)
				if !ok {
					continue
				}
				least := -1
				for _, d := range w.diceOn(at) {
					sum, fine := impl.LeastSum(b, s, impl.State{X: at.x, Y: at.y, Die: d})
					expectEqual(t, "LeastSum succeeds", fine, true)
					if least < 0 || sum < least {
						least = sum
					}
				}
				expectEqual(t, fmt.Sprint("the cost of CheapestWay ", b, s, at), cost, least)
			}
		}
	}
}
