package tests

import (
	"fmt"
	"math"
	"slices"
	"strings"
	"testing"

	"loop.example/g01207/impl"
)

func TestPromise7CountTogether(t *testing.T) {
	three := []impl.State{state(0, 0, "123456"), state(1, 0, "123456"), state(2, 0, "123456")}
	for _, c := range []struct {
		board string
		dice  []impl.State
		want  int
	}{
		{".", three[:1], 1}, {"..", three[:1], 2}, {"..", three[:2], 1}, {"...", three[:2], 3}, {"....", three[:2], 6}, {".......", three[:2], 21}, {"../..", three[:1], 12}, {"../..", three[:2], 36}, {".#.", []impl.State{three[0], three[2]}, 1}, {"..#..", []impl.State{three[0], state(4, 0, "905172")}, 4},
		{"...", []impl.State{state(0, 0, "000000"), state(1, 0, "000000")}, 3}, {"../..", []impl.State{state(0, 0, "000000"), state(1, 0, "000000")}, 12}, {".../.#.", three[:2], 10},
	} {
		got, ok := impl.CountTogether(c.board, c.dice)
		expectSuccess(t, fmt.Sprint("CountTogether ", c.board, c.dice), got, ok, c.want)
	}
	for _, c := range crowds() {
		got, ok := impl.CountTogether(c.board, c.start())
		expectSuccess(t, fmt.Sprint("CountTogether ", c.board, c.start()), got, ok, len(c.lists))
	}
}

// One die alone does what states do: as many are reached, and its plans are the words to them.
func TestPromise7OneDie(t *testing.T) {
	for _, w := range webs() {
		dice := []impl.State{w.start}
		what := fmt.Sprint(" of one die ", w.board, w.start)
		got, ok := impl.CountTogether(w.board, dice)
		expectSuccess(t, "CountTogether"+what, got, ok, len(w.states))
		targets := w.targets()
		for i := 0; i < len(targets); i += 4 {
			word, _, _ := w.best(isThat(targets[i]), noPrice)
			moves, ok := impl.PlanTo(w.board, dice, []impl.State{targets[i]})
			if len(word) > 60 {
				expectFailure(t, "PlanTo"+what, moves, ok)
				continue
			}
			want := ""
			for _, dir := range strings.Split(word, "") {
				want += strings.TrimSuffix("0"+dir, "0")
			}
			expectSuccess(t, fmt.Sprint("PlanTo", what, targets[i]), moves, ok, want)
		}
	}
}

// No two dice make just MaxPlans lists. They make n(n-1) or n(n-1)/2 pairs of cells where n hang together, n times m where they are apart, and for each pair
// a number of ways to lie that divides 144, as closed ways turn each die evenly. Only 5 times 25 cells, 48 ways each, and 10 times 25 cells, 24 ways each, would be 6000:
// five cells turn a die in three ways at most, and 35 cells of 36 cannot be apart. So the greatest number that is allowed is 5952, and the least one that is not is 6048.
func TestPromise7MaxPlans(t *testing.T) {
	equal, marked := "000000", "000001"
	below := ".....##/......./......./......./......#"
	for _, c := range []struct {
		board string
		dice  []impl.State
		want  int
	}{
		{below, []impl.State{state(0, 0, equal), state(1, 0, marked)}, 5952}, {below, []impl.State{state(6, 1, marked), state(0, 4, equal)}, 5952},
		{floorBoard(6, 6), []impl.State{state(0, 0, equal), state(5, 5, marked)}, 0}, {floorBoard(6, 6), []impl.State{state(0, 0, equal), state(5, 5, equal)}, 1260},
		{".../...", []impl.State{state(0, 0, "123456"), state(1, 0, "123456")}, 4320},
		{".../.../#.#", []impl.State{state(0, 0, "123456"), state(1, 0, "123456")}, 0},
		{"#./../../..", []impl.State{state(1, 0, "123456"), state(1, 3, "905172")}, 0}, {".../.../.##", []impl.State{state(0, 0, "123456"), state(0, 2, "905172")}, 0},
		{".../.../...", []impl.State{state(0, 0, "123456"), state(1, 0, "123456")}, 0}, {floorBoard(6, 6), []impl.State{state(0, 0, "123456"), state(5, 5, "905172")}, 0}, {floorBoard(7, 5), []impl.State{state(3, 3, "123456"), state(5, 4, "123456")}, 0},
	} {
		what := fmt.Sprint(" to the limit ", c.board, c.dice)
		got, ok := impl.CountTogether(c.board, c.dice)
		if c.want > 0 {
			expectSuccess(t, "CountTogether"+what, got, ok, c.want)
			continue
		}
		expectFailure(t, "CountTogether"+what, got, ok)
		// Goals that are near, and the dice themselves, are not told either.
		near, _ := impl.MoveDice(c.board, c.dice, strings.Join(planOf(c.board).diceMoves(c.dice)[:1], ""))
		moves, ok := impl.PlanTo(c.board, c.dice, near)
		expectFailure(t, "PlanTo"+what, moves, ok)
		moves, ok = impl.PlanTo(c.board, c.dice, c.dice)
		expectFailure(t, "PlanTo itself"+what, moves, ok)
		moves, ok = impl.PlanToCells(c.board, c.dice, cellsAt([]place{placeOf(near[0]), placeOf(near[1])}))
		expectFailure(t, "PlanToCells"+what, moves, ok)
		moves, ok = impl.SwapPlan(c.board, c.dice)
		expectFailure(t, "SwapPlan"+what, moves, ok)
	}
}

func TestPromise7MaxPlansOfCrowds(t *testing.T) {
	for _, c := range []*crowd{
		crowdOf("#./../../..", state(1, 0, "123456"), state(1, 3, "905172")), crowdOf(".../.../.##", state(0, 0, "123456"), state(0, 2, "905172")), crowdOf("..../...#", state(0, 0, "123456"), state(0, 1, "000011")),
	} {
		expectEqual(t, "lists just more than MaxPlans", len(c.lists), 6048)
		got, ok := impl.CountTogether(c.board, c.start())
		expectFailure(t, fmt.Sprint("CountTogether ", c.board, c.start()), got, ok)
	}
	c := crowdOf(".....##/......./......./......./......#", state(0, 0, "000000"), state(1, 0, "000001"))
	expectEqual(t, "lists just fewer than MaxPlans", len(c.lists), 5952)
	for _, goal := range c.goals() {
		told := c.planTo(isList(goal))
		got, ok := impl.PlanTo(c.board, c.start(), goal)
		expectSuccess(t, fmt.Sprint("PlanTo ", c.board, goal), got, ok, told.moves)
	}
}

// Three dice move, but what plans make of them is not looked at.
func TestPromise7ThreeDice(t *testing.T) {
	for _, c := range diceCases() {
		if len(c.dice) < 3 {
			continue
		}
		what := fmt.Sprint(" of three dice ", c)
		count, ok := impl.CountTogether(c.board, c.dice)
		expectFailure(t, "CountTogether"+what, count, ok)
		got, ok := impl.PlanTo(c.board, c.dice, c.dice)
		expectFailure(t, "PlanTo"+what, got, ok)
		own := []place{placeOf(c.dice[0]), placeOf(c.dice[1]), placeOf(c.dice[2])}
		got, ok = impl.PlanToCells(c.board, c.dice, cellsAt(own))
		expectFailure(t, "PlanToCells"+what, got, ok)
		got, ok = impl.PlanTo(c.board, c.dice[:2], c.dice)
		expectFailure(t, "PlanTo more"+what, got, ok)
		got, ok = impl.PlanTo(c.board, c.dice, c.dice[:2])
		expectFailure(t, "PlanTo fewer"+what, got, ok)
		got, ok = impl.SwapPlan(c.board, c.dice)
		expectFailure(t, "SwapPlan"+what, got, ok)
	}
}

func TestPromise7PlanTo(t *testing.T) {
	forked, far := 0, 0
	for _, c := range crowds() {
		for _, goal := range c.goals() {
			what := fmt.Sprint("PlanTo ", c.board, c.start(), goal)
			told := c.planTo(isList(goal))
			got, ok := impl.PlanTo(c.board, c.start(), goal)
			if !told.isTold() {
				expectFailure(t, what, got, ok)
				far++
				continue
			}
			expectSuccess(t, what, got, ok, told.moves)
			moved, ok := impl.MoveDice(c.board, c.start(), got)
			expectList(t, "MoveDice behind "+what, moved, ok, goal)
			back, _ := impl.BackPlan(got)
			again, ok := impl.MoveDice(c.board, moved, back)
			expectList(t, "BackPlan behind "+what, again, ok, c.start())
			if told.isForked {
				forked++
			}
		}
	}
	expectEqual(t, "lists with several shortest plans, and far ones, are tried", forked > 400 && far > 0, true)
}

func TestPromise7PlanToItself(t *testing.T) {
	for _, c := range append(crowds(), crowdOf(".", state(0, 0, "000000"))) {
		got, ok := impl.PlanTo(c.board, c.start(), slices.Clone(c.start()))
		expectSuccess(t, fmt.Sprint("PlanTo itself ", c.board, c.start()), got, ok, "")
		var own []place
		for _, s := range c.start() {
			own = append(own, placeOf(s))
		}
		got, ok = impl.PlanToCells(c.board, c.start(), cellsAt(own))
		expectSuccess(t, fmt.Sprint("PlanToCells of its own ", c.board, c.start()), got, ok, "")
	}
}

// Of several shortest plans, all of which are told here, the first one in the order of moves is returned, not that of the letters.
func TestPromise7PlanToOfSeveral(t *testing.T) {
	for _, c := range []struct {
		board string
		dice  []impl.State
		plans string
	}{
		{"..#../..#..", []impl.State{state(0, 0, "123456"), state(3, 0, "123456")}, "0e1e 1e0e"},
		{"..#../..#..", []impl.State{state(0, 1, "123456"), state(4, 1, "123456")}, "0n1n 1n0n"},
		{"..#../..#..", []impl.State{state(0, 1, "123456"), state(4, 0, "123456")}, "0n0e1w 0n1w0e 1w0n0e"},
		{"..../....", []impl.State{state(0, 0, "000000"), state(3, 1, "000000")}, "0e0s1n1w 0e0s1w1n 0e1n0s1w 0e1n1w0s 0s0e1n1w 1n0e0s1w 1w1n0s0e"},
		{".../...", []impl.State{state(0, 1, "000000")}, "0n0e0e 0e0n0e 0e0e0n"}, {".../...", []impl.State{state(2, 0, "111111")}, "0s0w0w 0w0s0w 0w0w0s"},
		{"../..", []impl.State{state(0, 0, "123456"), state(1, 1, "123456")}, "0e1w 1w0e"},
	} {
		plans := strings.Fields(c.plans)
		goal, _ := planOf(c.board).replay(c.dice, plans[0])
		got, ok := impl.PlanTo(c.board, c.dice, goal)
		expectSuccess(t, fmt.Sprint("PlanTo ", c.board, c.dice), got, ok, plans[0])
		for _, moves := range plans {
			moved, ok := impl.MoveDice(c.board, c.dice, moves)
			expectList(t, "MoveDice "+moves, moved, ok, goal)
		}
	}
}

func TestPromise7PlanToListsThatNoPlanMakes(t *testing.T) {
	count := 0
	for _, c := range crowds() {
		for _, goal := range c.unreached() {
			got, ok := impl.PlanTo(c.board, c.start(), goal)
			expectFailure(t, fmt.Sprint("PlanTo ", c.board, c.start(), goal), got, ok)
			count++
		}
		if len(c.start()) == 2 {
			other := []impl.State{c.start()[1], c.start()[0]}
			told := c.planTo(isList(other))
			got, ok := impl.PlanTo(c.board, c.start(), other)
			expectEqual(t, fmt.Sprint("PlanTo exchanged ", c.board, c.start()), got, told.moves)
			expectEqual(t, fmt.Sprint("PlanTo exchanged succeeds ", c.board, c.start()), ok, told.count >= 0)
		}
	}
	expectEqual(t, "lists that no plan makes are tried", count > 1000, true)
}

// The goal has to be dice together, as many: not more, not fewer, also where the first ones would do.
func TestPromise7PlanToWrongGoals(t *testing.T) {
	for _, c := range crowds() {
		start := c.start()
		goals := [][]impl.State{nil, {}, start[:len(start)-1], slices.Repeat(start, 5000), append(slices.Clone(start), start...), slices.Repeat(start[:1], len(start)+1)}
		for _, s := range append(farStrays(), append(c.lists[len(c.lists)-1], impl.State{})...) {
			goals = append(goals, append(slices.Clone(start), s), append(slices.Clone(start), s, s), append([]impl.State{s}, start...))
		}
		for k := range start {
			for _, s := range append(farStrays(), statesOff(c.board)...) {
				goal := slices.Clone(start)
				goal[k] = s
				goals = append(goals, goal)
			}
		}
		if len(start) == 2 {
			goals = append(goals, []impl.State{start[0], start[0]}, []impl.State{start[1], start[1]})
		}
		for i, goal := range goals {
			if len(goal) == len(start) && (i%7 > 0 || len(c.lists) > 100 && i%29 > 0) {
				continue
			}
			got, ok := impl.PlanTo(c.board, start, goal)
			expectFailure(t, fmt.Sprint("PlanTo ", c.board, start, " and the wrong goal ", i), got, ok)
		}
	}
}

// Plans of just sixty moves are told, longer ones are not, though their lists count.
func TestPromise7PlansOfSixtyMoves(t *testing.T) {
	moves := map[int]int{}
	for _, c := range []*crowd{
		crowdOf(roundBoard, state(0, 0, "123456"), state(1, 0, "905172")), crowdOf(ringBoard, state(0, 0, "123456"), state(1, 0, "123456")), crowdOf(longBoard, state(0, 4, "123456")), crowdOf(swapBoard, state(0, 0, "123456"), state(1, 0, "905172")),
	} {
		count, ok := impl.CountTogether(c.board, c.start())
		expectSuccess(t, "CountTogether "+c.board, count, ok, len(c.lists))
		// Plans there are undone backwards, so that the way there is as long as the way back.
		for i, away := range c.away(isList(c.start())) {
			if away < 59 {
				continue
			}
			moves[away]++
			if moves[away] > 5 {
				continue
			}
			what := fmt.Sprint("PlanTo of so many moves ", away, c.board, c.lists[i])
			told := c.planTo(isList(c.lists[i]))
			expectEqual(t, "moves there and back "+what, told.count, away)
			got, ok := impl.PlanTo(c.board, c.start(), c.lists[i])
			if away > 60 {
				expectFailure(t, what, got, ok)
				continue
			}
			expectSuccess(t, what, got, ok, told.moves)
		}
	}
	expectEqual(t, "plans of 59 to 62 and of 66 moves are tried", moves[59] > 20 && moves[60] > 20 && moves[61] > 2 && moves[62] > 2 && moves[66] > 0, true)
}

func TestPromise7PlanToCells(t *testing.T) {
	forked, missed := 0, 0
	for _, c := range crowds() {
		for _, goal := range c.cellLists() {
			what := fmt.Sprint("PlanToCells ", c.board, c.start(), goal)
			told := c.planTo(standsOn(goal...))
			got, ok := impl.PlanToCells(c.board, c.start(), cellsAt(goal))
			if !told.isTold() {
				expectFailure(t, what, got, ok)
				missed++
				continue
			}
			expectSuccess(t, what, got, ok, told.moves)
			moved, ok := impl.MoveDice(c.board, c.start(), got)
			expectEqual(t, "MoveDice behind "+what, ok && standsOn(goal...)(moved), true)
			if told.isForked {
				forked++
			}
		}
	}
	expectEqual(t, "cells with several shortest plans, and such without a plan, are tried", forked > 500 && missed > 500, true)
}

// The first one of all shortest plans is told, of those to dice that lie differently as well.
func TestPromise7PlanToCellsOfSeveral(t *testing.T) {
	for _, c := range []struct {
		board string
		dice  []impl.State
		plans string
	}{
		{"../..", []impl.State{state(0, 0, "123456")}, "0e0s 0s0e"}, {"../..", []impl.State{state(1, 1, "123456")}, "0n0w 0w0n"}, {"../..", []impl.State{state(0, 1, "123456")}, "0n0e 0e0n"}, {"../..", []impl.State{state(1, 0, "123456")}, "0s0w 0w0s"},
		{".../...", []impl.State{state(0, 1, "123456")}, "0n0e0e 0e0n0e 0e0e0n"}, {".../...", []impl.State{state(2, 0, "123456")}, "0s0w0w 0w0s0w 0w0w0s"},
		{"../../..", []impl.State{state(0, 0, "123456"), state(1, 2, "123456")}, "0e0s1w 0e1w0s 0s0e1w 0s1w0e 1w0e0s 1w0s0e"},
		{"..#../..#..", []impl.State{state(0, 0, "123456"), state(3, 1, "123456")}, "0e0s1n1e 0e0s1e1n 0e1n0s1e 0e1n1e0s 0s0e1n1e 1n1e0e0s 1e1n0s0e"},
		{"..#../..#..", []impl.State{state(1, 1, "123456"), state(4, 0, "123456")}, "0n0w1s1w 0n0w1w1s 0n1s0w1w 0w0n1w1s 1s1w0n0w 1w1s0w0n"},
		{"...../.....", []impl.State{state(0, 0, "000000"), state(1, 0, "000000")}, "1e0e"},
	} {
		plans := strings.Fields(c.plans)
		goal, made := planOf(c.board).replay(c.dice, plans[0])
		if made < len(plans[0])/2 {
			t.Fatal("a plan cannot be made:", c)
		}
		var cells []place
		for _, s := range goal {
			cells = append(cells, placeOf(s))
		}
		got, ok := impl.PlanToCells(c.board, c.dice, cellsAt(cells))
		expectSuccess(t, fmt.Sprint("PlanToCells ", c.board, c.dice), got, ok, plans[0])
		for _, moves := range plans {
			moved, ok := impl.MoveDice(c.board, c.dice, moves)
			expectEqual(t, "MoveDice "+moves, ok && standsOn(cells...)(moved), true)
		}
	}
}

// Lists that are not one for each die, or that have not two numbers, and cells that there are not.
func TestPromise7PlanToCellsThatAreNone(t *testing.T) {
	one, two := []impl.State{state(0, 0, "123456")}, []impl.State{state(0, 0, "123456"), state(1, 1, "905172")}
	for _, cells := range [][][]int{
		nil, {}, {nil}, {{}}, {{0}}, {{1}}, {{0, 0, 0}}, {{1, 1, 0}}, {{0, 0}, {1, 1}}, {{0, 0}, {0, 0}}, {{0, 0}, nil}, {{0, 0, 1, 1}}, {{-1, 0}}, {{0, -1}}, {{3, 0}}, {{0, 2}}, {{256, 0}}, {{1 << 32, 0}},
		{{math.MinInt, 0}}, {{0, math.MinInt}}, {{math.MaxInt, math.MaxInt}}, {{-7, -7}}, {{-2, -2}}, {{1, 0}, {-7, -7}}, slices.Repeat([][]int{{0, 0}}, 5000), {make([]int, 5000)},
	} {
		got, ok := impl.PlanToCells(".../...", one, cells)
		expectFailure(t, fmt.Sprintf("PlanToCells of one die %.80q", fmt.Sprint(cells)), got, ok)
	}
	for _, cells := range [][][]int{
		nil, {}, {{0, 0}}, {{1, 1}}, {{0, 0}, {1, 1}, {2, 1}}, {{0, 0}, {1, 1}, {0, 0}}, {{0, 0}, {1, 1}, nil}, {nil, nil}, {{0, 0}, nil}, {nil, {1, 1}}, {{0, 0}, {}}, {{0, 0}, {1}}, {{0}, {1, 1}}, {{0, 0}, {1, 1, 1}}, {{0, 0, 0}, {1, 1}}, {{0, 0, 1, 1}, {}}, {{0, 0, 1}, {1}},
		{{0, 0}, {0, 0}}, {{1, 1}, {1, 1}}, {{2, 1}, {2, 1}}, {{0, 0}, {3, 1}}, {{0, 0}, {1, 2}}, {{-1, 0}, {1, 1}}, {{0, -1}, {1, 1}}, {{0, 0}, {math.MaxInt, 1}}, {{math.MinInt, 0}, {1, 1}}, {{0, 0}, {1, 257}}, {{-7, -7}, {-7, -7}}, {{0, 0}, {-7, -7}}, slices.Repeat([][]int{{0, 0}, {1, 1}}, 2500),
	} {
		got, ok := impl.PlanToCells(".../...", two, cells)
		expectFailure(t, fmt.Sprintf("PlanToCells of two dice %.80q", fmt.Sprint(cells)), got, ok)
	}
	for _, cells := range [][][]int{{{1, 1}}, {{1, 0}}, {{0, 2}}} {
		got, ok := impl.PlanToCells(".#./.#./#..", one, cells)
		expectFailure(t, fmt.Sprint("PlanToCells to a wall ", cells), got, ok)
	}
	for _, c := range crowds() {
		for _, at := range wrongCells(c.board) {
			for k := range c.start() {
				cells := make([]place, len(c.start()))
				for i, s := range c.start() {
					cells[i] = placeOf(s)
				}
				cells[k] = at
				if len(c.lists) < 100 {
					got, ok := impl.PlanToCells(c.board, c.start(), cellsAt(cells))
					expectFailure(t, fmt.Sprint("PlanToCells ", c.board, cells), got, ok)
				}
			}
		}
	}
}

// swapBoard has a way to a fork where two dice can pass each other; the farther from it they are, the longer it takes.
const swapBoard = "....../#####./....../.#####/....../##.###"

func TestPromise7SwapPlan(t *testing.T) {
	exchanged, stuck := 0, 0
	for _, c := range crowds() {
		start := c.start()
		got, ok := impl.SwapPlan(c.board, start)
		what := fmt.Sprint("SwapPlan ", c.board, start)
		if len(start) == 1 {
			expectFailure(t, what, got, ok)
			continue
		}
		told := c.planTo(standsOn(placeOf(start[1]), placeOf(start[0])))
		if !told.isTold() {
			expectFailure(t, what, got, ok)
			stuck++
			continue
		}
		exchanged++
		expectSuccess(t, what, got, ok, told.moves)
		moved, ok := impl.MoveDice(c.board, start, got)
		expectEqual(t, "MoveDice behind "+what, ok && placeOf(moved[0]) == placeOf(start[1]) && placeOf(moved[1]) == placeOf(start[0]), true)
	}
	expectEqual(t, "dice that can be exchanged and such that cannot are tried", exchanged > 50 && stuck > 20, true)
}

func TestPromise7SwapPlanOfSixtyMoves(t *testing.T) {
	for x, want := range map[int]int{1: 66, 2: 64, 3: 62, 4: 60, 5: 58} {
		c := crowdOf(swapBoard, state(0, 0, "123456"), state(x, 0, "905172"))
		told := c.planTo(standsOn(place{x, 0}, place{0, 0}))
		expectEqual(t, fmt.Sprint("moves of the plan from ", x), told.count, want)
		got, ok := impl.SwapPlan(swapBoard, c.start())
		cells, okCells := impl.PlanToCells(swapBoard, c.start(), [][]int{{x, 0}, {0, 0}})
		if want > 60 {
			expectFailure(t, fmt.Sprint("SwapPlan from ", x), got, ok)
			expectFailure(t, fmt.Sprint("PlanToCells from ", x), cells, okCells)
			continue
		}
		expectSuccess(t, fmt.Sprint("SwapPlan from ", x), got, ok, told.moves)
		expectSuccess(t, fmt.Sprint("PlanToCells from ", x), cells, okCells, told.moves)
	}
}

func TestPromise7SwapPlanFails(t *testing.T) {
	for _, c := range []diceCase{
		{".", []impl.State{state(0, 0, "123456")}}, {"../..", []impl.State{state(0, 0, "123456")}}, {"..", pair()}, {"...", pair()}, {".......", pair()}, {"....", []impl.State{state(0, 0, "000000"), state(3, 0, "000000")}}, {".#.", []impl.State{state(0, 0, "000000"), state(2, 0, "000000")}},
		{"../..", []impl.State{state(0, 0, "000000"), state(1, 0, "000000"), state(1, 1, "000000")}}, {"..#../..#..", []impl.State{state(0, 0, "000000"), state(3, 0, "000000")}},
	} {
		got, ok := impl.SwapPlan(c.board, c.dice)
		expectFailure(t, fmt.Sprint("SwapPlan ", c), got, ok)
	}
	got, ok := impl.SwapPlan("../..", []impl.State{state(0, 0, "123456"), state(1, 1, "123456")})
	expectSuccess(t, "SwapPlan over four cells", got, ok, "0e1w0s1n")
}

// All plans are tried: the first one that makes a list is its plan, and so is that of its cells.
func TestPromise7AllPlans(t *testing.T) {
	for _, c := range []struct {
		board string
		dice  []impl.State
		moves int
	}{
		{".", pair()[:1], 2}, {"..", pair()[:1], 3}, {"..", pair(), 2}, {"...", pair(), 4}, {"....", pair(), 6}, {"..#..", []impl.State{state(0, 0, "123456"), state(4, 0, "905172")}, 4}, {".../.#.", pair(), 8}, {"../..", pair()[:1], 8}, {"../..", []impl.State{state(0, 0, "000000"), state(1, 1, "111111")}, 7}, {".../#.#", pair(), 12},
	} {
		expectTriedPlans(t, c.board, c.dice, c.moves)
	}
}

// endedPlan is a plan that can be made, with its last dice.
type endedPlan struct {
	moves string
	end   []impl.State
}

func expectTriedPlans(t *testing.T, b string, dice []impl.State, count int) {
	t.Helper()
	first := map[[3]impl.State]bool{}
	firstCells := map[string]bool{}
	tried := []endedPlan{{end: dice}}
	for i := 0; i < len(tried); i++ {
		from := tried[i]
		if !first[keyOf(from.end)] {
			first[keyOf(from.end)] = true
			got, ok := impl.PlanTo(b, dice, from.end)
			expectSuccess(t, fmt.Sprint("PlanTo ", b, dice, from.end), got, ok, from.moves)
		}
		var cells []place
		for _, s := range from.end {
			cells = append(cells, placeOf(s))
		}
		if !firstCells[fmt.Sprint(cells)] {
			firstCells[fmt.Sprint(cells)] = true
			got, ok := impl.PlanToCells(b, dice, cellsAt(cells))
			expectSuccess(t, fmt.Sprint("PlanToCells ", b, dice, cells), got, ok, from.moves)
		}
		if len(from.moves) == 2*count {
			continue
		}
		for _, move := range planOf(b).diceMoves(from.end) {
			end, _ := planOf(b).behind(from.end, move)
			tried = append(tried, endedPlan{from.moves + move, end})
		}
	}
	got, ok := impl.CountTogether(b, dice)
	expectSuccess(t, fmt.Sprint("CountTogether ", b, dice), got, ok, len(first))
}

// What plans make turns with the board and the dice.
func TestPromise7TurnedDice(t *testing.T) {
	for _, c := range crowds() {
		if len(c.lists) > 1000 {
			continue
		}
		board, _ := impl.TurnBoard(c.board)
		turned := func(dice []impl.State) []impl.State {
			var list []impl.State
			for _, s := range dice {
				to, _ := impl.TurnState(c.board, s)
				list = append(list, to)
			}
			return list
		}
		what := fmt.Sprint(" turned ", c.board, c.start())
		count, ok := impl.CountTogether(board, turned(c.start()))
		expectSuccess(t, "CountTogether"+what, count, ok, len(c.lists))
		for i, goal := range c.goals() {
			if i%4 > 0 {
				continue
			}
			moves, ok := impl.PlanTo(board, turned(c.start()), turned(goal))
			expectSuccess(t, "the length of PlanTo"+what, len(moves), ok, 2*c.planTo(isList(goal)).count)
			touching, ok := impl.TouchingPairs(board, turned(goal))
			expectSuccess(t, "TouchingPairs"+what, touching, ok, touchingInSpace(goal))
		}
	}
}
