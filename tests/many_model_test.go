package tests

import (
	"math"
	"slices"
	"strings"
	"sync"

	"loop.example/g01207/impl"
)

// The tests of several dice hold the program against crowds: all lists of dice that moves make of one list, found by
// turning dice in space over a plan of cells. What plans take is told backwards, from their goals, and on small boards
// by trying all plans.

var allDiceMoves = strings.Fields("0n 0e 0s 0w 1n 1e 1s 1w 2n 2e 2s 2w")

func placeOf(s impl.State) place {
	return place{s.X, s.Y}
}

// areApart reports whether no two of some dice are in one cell.
func areApart(dice []impl.State) bool {
	taken := map[place]bool{}
	for _, s := range dice {
		taken[placeOf(s)] = true
	}
	return len(taken) == len(dice)
}

// behind returns the dice behind a move, and whether it can be made.
func (p plan) behind(dice []impl.State, move string) ([]impl.State, bool) {
	k := strings.Index("012", move[:1])
	if k >= len(dice) {
		return nil, false
	}
	way := p.walk(dice[k], move[1:])
	if len(way) < 2 {
		return nil, false
	}
	moved := slices.Clone(dice)
	moved[k] = way[1]
	return moved, areApart(moved)
}

// diceMoves returns all moves of some dice, in order.
func (p plan) diceMoves(dice []impl.State) []string {
	var moves []string
	for _, move := range allDiceMoves {
		if _, can := p.behind(dice, move); can {
			moves = append(moves, move)
		}
	}
	return moves
}

// replay returns the dice behind the moves of a plan, and how many of them can be made until one cannot.
func (p plan) replay(dice []impl.State, moves string) ([]impl.State, int) {
	for i := 0; i < len(moves); i += 2 {
		moved, can := p.behind(dice, moves[i:i+2])
		if !can {
			return dice, i / 2
		}
		dice = moved
	}
	return dice, len(moves) / 2
}

// longPlan returns a plan of n moves, without a plain pattern, that can be made. There has to be a move.
func (p plan) longPlan(dice []impl.State, n int) string {
	word := ""
	for i := 0; i < n; i++ {
		moves := p.diceMoves(dice)
		move := moves[(i*i+i/3)%len(moves)]
		dice, _ = p.behind(dice, move)
		word += move
	}
	return word
}

// backwards returns the plan that undoes a plan, read move by move.
func backwards(moves string) string {
	back := ""
	for i := 0; i < len(moves); i += 2 {
		back = moves[i:i+1] + backDirections[moves[i+1:i+2]] + back
	}
	return back
}

// crowd has the lists of dice that moves make of the first of them, and for each the lists next to it in the order of moves, -1 where a move cannot be made.
type crowd struct {
	board string
	lists [][]impl.State
	next  [][]int
	index map[[3]impl.State]int
}

func crowdOf(b string, dice ...impl.State) *crowd {
	cells := planOf(b)
	c := &crowd{board: b, lists: [][]impl.State{dice}, index: map[[3]impl.State]int{keyOf(dice): 0}}
	for i := 0; i < len(c.lists); i++ {
		var next []int
		for _, move := range allDiceMoves[:4*len(dice)] {
			moved, can := cells.behind(c.lists[i], move)
			if !can {
				next = append(next, -1)
				continue
			}
			if !c.has(moved) {
				c.index[keyOf(moved)] = len(c.lists)
				c.lists = append(c.lists, moved)
			}
			next = append(next, c.index[keyOf(moved)])
		}
		c.next = append(c.next, next)
	}
	return c
}

func keyOf(dice []impl.State) [3]impl.State {
	var key [3]impl.State
	copy(key[:], dice)
	return key
}

func (c *crowd) start() []impl.State {
	return c.lists[0]
}

// has reports whether moves make a list, which has to be as long, of the first one.
func (c *crowd) has(dice []impl.State) bool {
	_, found := c.index[keyOf(dice)]
	return found
}

// endGoal tells behind which lists of dice a plan may end.
type endGoal func(dice []impl.State) bool

func isList(goal []impl.State) endGoal {
	return func(dice []impl.State) bool { return slices.Equal(dice, goal) }
}

func standsOn(goal ...place) endGoal {
	return func(dice []impl.State) bool {
		for k, s := range dice {
			if placeOf(s) != goal[k] {
				return false
			}
		}
		return true
	}
}

// away returns how many moves lead from each list to a goal, made less from list to list until nothing changes; -1 where no plan does.
func (c *crowd) away(isGoal endGoal) []int {
	away := make([]int, len(c.lists))
	for i, dice := range c.lists {
		if !isGoal(dice) {
			away[i] = -1
		}
	}
	for changed := true; changed; {
		changed = false
		for i := len(away) - 1; i >= 0; i-- {
			for _, to := range c.next[i] {
				if to >= 0 && away[to] >= 0 && (away[i] < 0 || away[to]+1 < away[i]) {
					away[i] = away[to] + 1
					changed = true
				}
			}
		}
	}
	return away
}

// toldPlan is the first one of the shortest plans to a goal, how many moves it has, -1 if there is none, and whether there are others.
type toldPlan struct {
	moves    string
	count    int
	isForked bool
}

// isTold reports whether there is a plan that is not too long.
func (p toldPlan) isTold() bool {
	return p.count >= 0 && p.count <= 60
}

func (c *crowd) planTo(isGoal endGoal) toldPlan {
	away := c.away(isGoal)
	told := toldPlan{count: away[0]}
	for at := 0; away[at] > 0; {
		var good []int
		for k, to := range c.next[at] {
			if to >= 0 && away[to] == away[at]-1 {
				good = append(good, k)
			}
		}
		told.moves += allDiceMoves[good[0]]
		told.isForked = told.isForked || len(good) > 1
		at = c.next[at][good[0]]
	}
	return told
}

// goals returns lists of the crowd: all if they are few, and else some, the first and the last ones with them.
func (c *crowd) goals() [][]impl.State {
	if len(c.lists) <= 40 {
		return c.lists
	}
	var goals [][]impl.State
	for i := 0; i < len(c.lists); i += len(c.lists)/9 + 1 {
		goals = append(goals, c.lists[i])
	}
	return append(goals, c.lists[len(c.lists)-3:]...)
}

// unreached returns lists of dice together, as many, that no plan makes: dice that lie otherwise or are others, and such in other cells.
func (c *crowd) unreached() [][]impl.State {
	var lists [][]impl.State
	mirror := matrix{{-1, 0, 0}, {0, 1, 0}, {0, 0, 1}}
	for _, dice := range append(slices.Clone(c.goals()), c.partings()...) {
		for k, s := range dice {
			for _, d := range append(waysInSpace(s.Die), movedDie(s.Die, mirror), die("888888"), die("777778")) {
				other := slices.Clone(dice)
				other[k].Die = d
				if len(lists) < 30 && !c.has(other) {
					lists = append(lists, other)
				}
			}
		}
	}
	return lists
}

// partings returns the start with its dice in other cells, whether or not a plan makes that.
func (c *crowd) partings() [][]impl.State {
	var lists [][]impl.State
	cells := planOf(c.board)
	for i, at := range cells.places() {
		dice := slices.Clone(c.start())
		k := i % len(dice)
		dice[k].X, dice[k].Y = at.x, at.y
		if cells[at] && areApart(dice) {
			lists = append(lists, dice)
		}
	}
	return lists
}

// cellLists returns cells for as many dice, walls and one cell twice with them: all if they are few, and else some.
func (c *crowd) cellLists() [][]place {
	lists := [][]place{nil}
	for range c.start() {
		var longer [][]place
		for _, list := range lists {
			for _, at := range planOf(c.board).places() {
				longer = append(longer, append(slices.Clone(list), at))
			}
		}
		lists = longer
	}
	if len(lists) <= 40 {
		return lists
	}
	var some [][]place
	for i := 0; i < len(lists); i += len(lists)/20 + 1 {
		some = append(some, lists[i])
	}
	return some
}

func cellsAt(places []place) [][]int {
	var cells [][]int
	for _, at := range places {
		cells = append(cells, []int{at.x, at.y})
	}
	return cells
}

// roundBoard has a way around on which two dice make lists that are more than sixty moves away, ringBoard such that are just sixty away.
const roundBoard = "....../.####./.####./..###./#.###./......"

const ringBoard = "....../.####./.####./.####./.####./......"

// crowds returns crowds of one die and of two, of dice with different and with equal faces; all have at most MaxPlans lists.
var crowds = sync.OnceValue(func() []*crowd {
	var all []*crowd
	for _, b := range strings.Fields(". .. ... ../.. .../.#. ./././. .#. ..../#..#/.... .../.../... ...../.#.#./.....") {
		for _, s := range startsOn(b) {
			all = append(all, crowdOf(b, s))
		}
	}
	for _, b := range strings.Fields(".. ... .... ./. ././././. .#. ..#../.##.. ../.. .../.#. .#./.../.#. .../#.. ...#../#.##.. .../.#./... ..../.##./.... #.#.#/...../#.#.#") {
		starts := startsOn(b)
		for i := range starts {
			all = append(all, crowdOf(b, starts[i], starts[(i+1)%len(starts)]), crowdOf(b, starts[i], starts[(i+len(starts)-1)%len(starts)]))
		}
	}
	for _, texts := range [][]string{{"000000", "111111"}, {"123456", "000000"}, {"000000", "123456"}, {"112211", "222222"}, {"000001", "100000"}} {
		all = append(all,
			crowdOf(".../...", state(0, 0, texts[0]), state(1, 1, texts[1])), crowdOf(".../...", state(2, 1, texts[0]), state(2, 0, texts[1])),
			crowdOf("..../.#../.#..", state(0, 1, texts[0]), state(3, 2, texts[1])), crowdOf(".../.../...", state(2, 0, texts[0]), state(0, 0, texts[1])))
	}
	ends := []impl.State{state(0, 0, "123456"), state(1, 0, "905172")}
	return append(all, crowdOf("../../.#", state(0, 0, "123456"), state(1, 1, "123456")), crowdOf("..../.##.", ends...), crowdOf(longBoard, state(0, 3, "123456")), crowdOf(roundBoard, ends...), crowdOf(ringBoard, ends...))
})

// diceCase is a board and a list of states.
type diceCase struct {
	board string
	dice  []impl.State
}

// diceCases returns dice together, one, two and three of them: on small boards in all cells, on others in some, next to each other and far apart.
var diceCases = sync.OnceValue(func() []diceCase {
	var cases []diceCase
	for _, b := range append(sampleBoards(), "....", ".#/../.#", ".../...", ".#./.../.#.") {
		starts := startsOn(b)
		n := len(starts)
		for i := range n {
			cases = append(cases, diceCase{b, starts[i : i+1]})
			for j := range n {
				if i == j || n > 6 && (i+j)%5 > 1 && j-i != 1 {
					continue
				}
				cases = append(cases, diceCase{b, []impl.State{starts[i], starts[j]}})
				for k := range n {
					if k == i || k == j || n > 6 && (i+2*j+3*k)%17 > 0 && (j-i != 1 || k-j != 1) {
						continue
					}
					cases = append(cases, diceCase{b, []impl.State{starts[i], starts[j], starts[k]}})
				}
			}
		}
	}
	return cases
})

// wrongDiceLists returns boards with lists of states that are no dice together on them: none, more than three, states that are none, and two dice in one cell.
var wrongDiceLists = sync.OnceValue(func() []diceCase {
	var cases []diceCase
	for _, b := range sampleBoards() {
		starts := startsOn(b)
		cases = append(cases, diceCase{b, nil}, diceCase{b, []impl.State{}})
		for _, s := range statesOff(b) {
			cases = append(cases, diceCase{b, []impl.State{s}})
			for n := range min(3, len(starts)) {
				for k := range n + 1 {
					dice := slices.Clone(starts[:n+1])
					dice[k] = s
					cases = append(cases, diceCase{b, dice})
				}
			}
		}
		for n := 4; n <= len(starts); n++ {
			cases = append(cases, diceCase{b, starts[:n]})
		}
		for i, s := range starts {
			other := impl.State{X: s.X, Y: s.Y, Die: die("654321")}
			third := starts[(i+1)%len(starts)]
			cases = append(cases, diceCase{b, []impl.State{s, s}}, diceCase{b, []impl.State{s, other}}, diceCase{b, []impl.State{s, s, s}}, diceCase{b, []impl.State{other, s, s}},
				diceCase{b, []impl.State{third, s, s}}, diceCase{b, []impl.State{s, third, other}}, diceCase{b, []impl.State{s, other, third}}, diceCase{b, slices.Repeat([]impl.State{s}, 5000)})
		}
	}
	return cases
})

// wrongDiceBoards returns texts that are no boards, with lists that would be dice together on floor.
var wrongDiceBoards = sync.OnceValue(func() []diceCase {
	var cases []diceCase
	for _, b := range wrongBoards() {
		cases = append(cases, diceCase{b, nil}, diceCase{b, []impl.State{state(0, 0, "123456")}}, diceCase{b, []impl.State{state(0, 0, "123456"), state(1, 0, "123456")}}, diceCase{b, []impl.State{state(0, 0, "123456"), state(1, 0, "123456"), state(0, 1, "123456")}})
	}
	return cases
})

// wrongPlans returns texts that are no plans.
func wrongPlans() []string {
	texts := strings.Fields("0 n 1 2 0e0 e0 e0e 0ee 00e 0e0e1 ee 00 012 nesw n0 w2 3n 4e 5s 6w 7n 8e 9s 0n3e 3e0n -n -1n 00n 01n 0N 0E 0x x0 .n 0e,1e 0e;1e e1 /e :e")
	texts = append(texts, " 0e", "0e ", "0 e", "0e 1e", "0e\n", "\n", " ", "  ", "0\x00", "\x00n", "\xffe", "0\xff", "0é", "éé", "０n", "n\xff", "\x000")
	return append(texts, strings.Repeat("0e", 61), strings.Repeat("0e0w", 31), strings.Repeat("0e", 60)+"0", strings.Repeat("0e", 60)+"n", strings.Repeat("0e", 59)+"3e", strings.Repeat("0e", 59)+"0x", strings.Repeat("0e", 59)+"0", strings.Repeat("1n", 5000), strings.Repeat("nesw", 15))
}

// wrongIndices returns numbers that are the index of no die of some.
func wrongIndices(dice []impl.State) []int {
	indices := []int{math.MinInt, math.MinInt32, -256, -48, -3, -2, -1, 3, 4, 9, 10, 48, 49, 256, 257, 1 << 32, math.MaxInt - 1, math.MaxInt}
	for k := len(dice); k < 3; k++ {
		indices = append(indices, k)
	}
	return indices
}

// farStrays returns states that are none on any board: beyond all sides, one step from them and farther.
func farStrays() []impl.State {
	var strays []impl.State
	for _, far := range []int{math.MinInt, -256, -8, -7, -6, -3, -2, -1, 7, 8, 256, math.MaxInt} {
		strays = append(strays, impl.State{X: far, Y: far}, impl.State{X: far}, state(0, far, "123456"))
	}
	return strays
}
