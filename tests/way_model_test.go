package tests

import (
	"math"
	"slices"
	"strings"
	"sync"
	"testing"

	"loop.example/g01207/impl"
)

// The tests of ways hold the program against webs: all states that a state reaches, found by turning dice in space
// over a plan. What words take is told backwards, from their goals, and on small boards by trying all words.

const order = "nesw"

// web has the states that the first of them reaches, and for each the states next to it in the order of directions, -1 where it cannot be rolled.
type web struct {
	board  string
	start  impl.State
	states []impl.State
	next   [][4]int
}

func webOf(b string, s impl.State) web {
	return spread(b, s, planOf(b).walk)
}

// spread returns the web of all states to which walks of one roll come, from one to the next.
func spread(b string, s impl.State, walk func(impl.State, string) []impl.State) web {
	w := web{board: b, start: s, states: []impl.State{s}}
	index := map[impl.State]int{s: 0}
	for i := 0; i < len(w.states); i++ {
		next := [4]int{-1, -1, -1, -1}
		for k := range order {
			way := walk(w.states[i], order[k:k+1])
			if len(way) < 2 {
				continue
			}
			if _, found := index[way[1]]; !found {
				index[way[1]] = len(w.states)
				w.states = append(w.states, way[1])
			}
			next[k] = index[way[1]]
		}
		w.next = append(w.next, next)
	}
	return w
}

// has reports whether a state is reached.
func (w web) has(s impl.State) bool {
	return slices.Contains(w.states, s)
}

// goals tells at which states a word may end.
type goals func(impl.State) bool

func isThat(t impl.State) goals {
	return func(s impl.State) bool { return s == t }
}

func isOn(at place) goals {
	return func(s impl.State) bool { return s.X == at.x && s.Y == at.y }
}

func isTopOn(at place, top int) goals {
	return func(s impl.State) bool { return isOn(at)(s) && s.Die.Top == top }
}

// prices tells what a roll to a state costs: nothing, where the fewest rolls are asked for, or its top.
type prices func(impl.State) int

func noPrice(impl.State) int { return 0 }

func topPrice(s impl.State) int { return s.Die.Top }

// effort is what a word takes.
type effort struct{ cost, rolls int }

var endless = effort{math.MaxInt32, math.MaxInt32}

func (e effort) isLess(f effort) bool {
	return e.cost < f.cost || e.cost == f.cost && e.rolls < f.rolls
}

// efforts returns for each state the least that a word to a goal takes, made less from state to state until nothing changes.
func (w web) efforts(isGoal goals, price prices) []effort {
	efforts := make([]effort, len(w.states))
	for i, s := range w.states {
		if !isGoal(s) {
			efforts[i] = endless
		}
	}
	for changed := true; changed; {
		changed = false
		for i := range efforts {
			for k := range order {
				if e, can := w.effortOver(efforts, i, k, price); can && e.isLess(efforts[i]) {
					efforts[i] = e
					changed = true
				}
			}
		}
	}
	return efforts
}

// effortOver returns what it takes from a state if the first roll is in a direction.
func (w web) effortOver(efforts []effort, i int, k int, price prices) (effort, bool) {
	to := w.next[i][k]
	if to < 0 || efforts[to] == endless {
		return effort{}, false
	}
	return effort{efforts[to].cost + price(w.states[to]), efforts[to].rolls + 1}, true
}

// best returns the first one of the best words from the start to a goal, what it takes, and how many are as good.
func (w web) best(isGoal goals, price prices) (string, effort, int) {
	efforts := w.efforts(isGoal, price)
	if efforts[0] == endless {
		return "", endless, 0
	}
	word := ""
	for at := 0; efforts[at].rolls > 0; {
		for k := range order {
			if e, can := w.effortOver(efforts, at, k, price); can && e == efforts[at] {
				word += order[k : k+1]
				at = w.next[at][k]
				break
			}
		}
	}
	return word, efforts[0], w.countBest(efforts, price, 0, map[int]int{})
}

// countBest returns how many words from a state to a goal take as little as its effort.
func (w web) countBest(efforts []effort, price prices, i int, counts map[int]int) int {
	if efforts[i].rolls == 0 {
		return 1
	}
	if _, known := counts[i]; !known {
		for k := range order {
			if e, can := w.effortOver(efforts, i, k, price); can && e == efforts[i] {
				counts[i] += w.countBest(efforts, price, w.next[i][k], counts)
			}
		}
	}
	return counts[i]
}

// layers returns how many states have each distance, told as a web spreads from its start roll by roll.
func (w web) layers() ([]int, []impl.State) {
	seen := map[int]bool{0: true}
	var layers []int
	var last []impl.State
	for layer := []int{0}; len(layer) > 0; {
		layers = append(layers, len(layer))
		last = nil
		var following []int
		for _, i := range layer {
			last = append(last, w.states[i])
			for _, to := range w.next[i] {
				if to >= 0 && !seen[to] {
					seen[to] = true
					following = append(following, to)
				}
			}
		}
		layer = following
	}
	slices.SortFunc(last, inOrder)
	return layers, last
}

// inOrder orders states by rows, then columns, then the numbers of their dice.
func inOrder(s, t impl.State) int {
	return slices.Compare(append([]int{s.Y, s.X}, facesOf(s.Die)...), append([]int{t.Y, t.X}, facesOf(t.Die)...))
}

// diceOn returns the dice that lie on a cell, in order, each once.
func (w web) diceOn(at place) []impl.Die {
	var dice []impl.Die
	for _, s := range w.states {
		if isOn(at)(s) {
			dice = append(dice, s.Die)
		}
	}
	slices.SortFunc(dice, func(d, e impl.Die) int { return slices.Compare(facesOf(d), facesOf(e)) })
	return dice
}

// topsOn returns the tops of these dice, increasing.
func (w web) topsOn(at place) []int {
	var tops []int
	for top := range 10 {
		if slices.ContainsFunc(w.diceOn(at), func(d impl.Die) bool { return d.Top == top }) {
			tops = append(tops, top)
		}
	}
	return tops
}

// targets returns states that are reached: all of them if they are few, and else some, the start and the last ones found with them.
func (w web) targets() []impl.State {
	if len(w.states) <= 24 {
		return w.states
	}
	var targets []impl.State
	for i := 0; i < len(w.states); i += len(w.states)/12 + 1 {
		targets = append(targets, w.states[i])
	}
	return append(targets, w.states[len(w.states)-3:]...)
}

// unreached returns states on the board that are not reached: dice that lie otherwise, mirrored ones and other ones, on some cells.
func (w web) unreached() []impl.State {
	mirrored := movedDie(w.start.Die, matrix{{-1, 0, 0}, {0, 1, 0}, {0, 0, 1}})
	dice := append(waysInSpace(w.start.Die), mirrored, die("888888"))
	cells := planOf(w.board)
	var states []impl.State
	for i, at := range cells.places() {
		if !cells[at] {
			continue
		}
		for k, d := range dice {
			if s := (impl.State{X: at.x, Y: at.y, Die: d}); (len(cells) <= 6 || (i+k)%11 == 0) && !w.has(s) {
				states = append(states, s)
			}
		}
	}
	return states
}

// cells returns cells of the board, walls with them: all if they are few, and else some, that of the start and the last one with them.
func (w web) cells() []place {
	places := planOf(w.board).places()
	if len(places) <= 16 {
		return places
	}
	some := []place{{w.start.X, w.start.Y}, places[len(places)-1]}
	for i := 0; i < len(places); i += 7 {
		some = append(some, places[i])
	}
	return some
}

// longBoard has ways of more than MaxRolls rolls to states and to tops.
const longBoard = "#...../..#..#/.####./.#..../.#.##./......"

// dearWay is a board and a state from which words to some states cost hundreds.
func dearWay() web {
	return webOf("..#.../..#.#./.####./.#..../.#.##./......", state(3, 0, "999898"))
}

// wideWays are boards and states from which words without a top are long; some have more than MaxRolls rolls.
func wideWays() []web {
	return []web{
		webOf("...../...../..#../..#../#.#../...../#....", state(1, 4, "040030")),
		webOf("...../...../..#../...../..#../..#../.#...", state(3, 6, "002001")),
		webOf("....../....../..##../..##../....../.#....", state(2, 4, "000505")),
	}
}

// webs returns webs of all boards, from all their floor where it is little, and else from some; of dice with different and with equal faces; and such with long ways.
var webs = sync.OnceValue(func() []web {
	var all []web
	for _, b := range sampleBoards() {
		starts := startsOn(b)
		if len(starts) > 8 {
			starts = []impl.State{starts[0], starts[len(starts)/2], starts[len(starts)-1]}
		}
		for _, s := range starts {
			all = append(all, webOf(b, s))
		}
	}
	for _, d := range append(sampleDice(), equalFaced()...) {
		all = append(all, webOf("../..", impl.State{X: 1, Y: 1, Die: d}), webOf(".../...", impl.State{X: 1, Y: 0, Die: d}))
	}
	for _, text := range strings.Fields("900900 090000 000009 019283 199119 990909") {
		all = append(all, webOf(".../.../...", state(2, 1, text)), webOf("..../.##./....", state(0, 1, text)),
			webOf("..../..../..../....", state(1, 2, text)), webOf("...../.#.#./...../.#.#./.....", state(4, 0, text)), webOf(floorBoard(6, 6), state(2, 3, text)))
	}
	all = append(all, webOf(longBoard, state(0, 3, "123456")), webOf(longBoard, state(0, 4, "123456")))
	return append(append(all, dearWay()), wideWays()...)
})

// endedWord is a word that can be rolled along, with its last state and the tops behind its rolls together.
type endedWord struct {
	word string
	end  impl.State
	cost int
}

// wordsFrom returns all words of at most n rolls that can be rolled along, shorter ones first, those of one length in order.
func wordsFrom(b string, s impl.State, n int) []endedWord {
	cells := planOf(b)
	words := []endedWord{{end: s}}
	for i := 0; i < len(words) && len(words[i].word) < n; i++ {
		for k := range order {
			from := words[i]
			if way := cells.walk(from.end, order[k:k+1]); len(way) == 2 {
				words = append(words, endedWord{from.word + order[k:k+1], way[1], from.cost + way[1].Die.Top})
			}
		}
	}
	return words
}

// triedWays are boards, states, and numbers of rolls in which all words are tried.
// The number is so great that all states are reached in it, and each cheapest way, which comes to no state twice, is no longer.
type triedWay struct {
	board string
	start impl.State
	rolls int
}

func triedWays() []triedWay {
	var ways []triedWay
	for _, text := range strings.Fields("123456 123546 000000 900900 012345 112233 090000") {
		ways = append(ways,
			triedWay{".", state(0, 0, text), 3}, triedWay{"..", state(1, 0, text), 4}, triedWay{"...", state(1, 0, text), 5},
			triedWay{"../..", state(0, 0, text), 11}, triedWay{"../..", state(1, 1, text), 11}, triedWay{"../#./..", state(0, 0, text), 8}, triedWay{"./././.", state(0, 1, text), 7})
	}
	return ways
}

// wrongStarts returns boards and states of which one is invalid.
var wrongStarts = sync.OnceValue(func() []web {
	var wrong []web
	for _, b := range wrongBoards() {
		for _, at := range []place{{0, 0}, {1, 0}, {0, 1}} {
			wrong = append(wrong, web{board: b, start: state(at.x, at.y, "123456")})
		}
	}
	for _, b := range sampleBoards() {
		for _, s := range statesOff(b) {
			wrong = append(wrong, web{board: b, start: s})
		}
	}
	return wrong
})

// wrongCells returns cells that a board does not have.
func wrongCells(b string) []place {
	columns, rows := planOf(b).columns(), planOf(b).rows()
	return []place{
		{-1, 0}, {0, -1}, {-1, -1}, {columns, 0}, {0, rows}, {columns, rows}, {columns - 1, rows}, {columns, rows - 1}, {256, 0}, {0, 256}, {1 << 32, 0},
		{math.MinInt, 0}, {0, math.MinInt}, {math.MaxInt, 0}, {0, math.MaxInt}, {math.MaxInt, math.MaxInt},
	}
}

// expectList checks that a call succeeded with a list.
func expectList[T comparable](t *testing.T, what string, got []T, ok bool, want []T) {
	t.Helper()
	if !ok || !slices.Equal(got, want) {
		t.Errorf("%s: got %v, %v, want %v", what, got, ok, want)
	}
}

// expectNoList checks that a call failed without a list.
func expectNoList[T any](t *testing.T, what string, got []T, ok bool) {
	t.Helper()
	if ok || len(got) > 0 {
		t.Errorf("%s: got %v, %v, want a failure without a list", what, got, ok)
	}
}
