package tests

import (
	"fmt"
	"math"
	"slices"
	"strings"
	"testing"

	"loop.example/g01207/impl"
)

// manyBoards returns boards and what is none.
func manyBoards() []string {
	return []string{
		".", "#", "..", "...", "../..", ".../.#.", ".../.../...", floorBoard(6, 6), swapBoard,
		"", "/", "./", "/.", "../.", ".x", "-", "\xff", "·", floorBoard(8, 1), floorBoard(7, 6), floorBoard(100, 100), strings.Repeat("/", 5000),
	}
}

// wildDiceLists returns dice together on some boards, and what is none on any.
func wildDiceLists() [][]impl.State {
	one, two, three := state(0, 0, "123456"), state(1, 0, "905172"), state(0, 1, "000000")
	lists := [][]impl.State{
		nil, {}, {one}, {one, two}, {one, three}, {two, one}, {one, two, three}, {three, one, two}, {one, two, three, state(1, 1, "123456")}, {one, one}, {one, two, one}, {{}}, {{}, {}}, {{}, two},
		{state(2, 2, "000000"), state(0, 0, "111111")}, {state(2, 1, "123456")}, slices.Repeat([]impl.State{one}, 5000),
	}
	for _, number := range []int{math.MinInt, -14, -8, -7, -6, -1, 6, 7, 8, math.MaxInt - 1, math.MaxInt} {
		stray := impl.State{X: number, Y: number, Die: die("123456")}
		lists = append(lists, []impl.State{stray}, []impl.State{one, stray}, []impl.State{stray, one}, []impl.State{one, {X: number, Y: number}}, []impl.State{one, two, stray}, []impl.State{stray, stray},
			[]impl.State{{X: number}, two}, []impl.State{{Y: number}}, []impl.State{{Die: impl.Die{Top: number}}}, []impl.State{one, {X: 1, Die: impl.Die{North: number, South: number}}})
	}
	return lists
}

// wildPlans returns plans, words, and what is none of these.
func wildPlans() []string {
	return append(wrongPlans(), "", "0e", "1e", "1s", "2s", "1e0e", "0e0w", "0s1w0e", strings.Repeat("1s1n", 30), strings.Repeat("0s0n", 30), "nesw", "123456", strings.Repeat("\xf0\x9f\x8e\xb2", 15), strings.Repeat("0n", 1<<14))
}

// wildCells returns cells for some lists of dice, and what is none for any.
func wildCells() [][][]int {
	cells := [][][]int{nil, {}, {nil}, {{}}, {{0, 0}}, {{1, 0}}, {{1, 0}, {0, 0}}, {{0, 0}, {1, 0}}, {{0, 0}, {0, 0}}, {{0, 0}, {1, 0}, {0, 1}}, {{0}}, {{0, 0, 0}}, {nil, nil, nil}, {{1, 1}, {2, 2}}, slices.Repeat([][]int{{0, 0}}, 5000), {make([]int, 5000), {0, 0}}}
	for _, number := range []int{math.MinInt, -7, -1, 2, 7, math.MaxInt} {
		cells = append(cells, [][]int{{number, number}}, [][]int{{0, number}}, [][]int{{0, 0}, {number, number}}, [][]int{{number, 0}, {1, 0}}, [][]int{{number}, {number}})
	}
	return cells
}

// brief tells a list by its beginning and its length.
func brief[T any](list []T) string {
	return fmt.Sprintf("%.200q of %d", fmt.Sprint(list[:min(4, len(list))]), len(list))
}

// outcomesOfDiceLists calls each function whose arguments are a board and a list of states.
func outcomesOfDiceLists(t *testing.T, b string, dice []impl.State) []string {
	what := fmt.Sprintf("%.60q %s", b, brief(dice))
	return []string{
		outcome(t, "AreDice "+what, func() (bool, bool) { return impl.AreDice(b, dice) }),
		outcome(t, "DiceMoves "+what, func() ([]string, bool) { return impl.DiceMoves(b, dice) }),
		outcome(t, "BlockedDice "+what, func() ([]int, bool) { return impl.BlockedDice(b, dice) }),
		outcome(t, "CountTogether "+what, func() (int, bool) { return impl.CountTogether(b, dice) }),
		outcome(t, "SwapPlan "+what, func() (string, bool) { return impl.SwapPlan(b, dice) }),
		outcome(t, "TouchingPairs "+what, func() (int, bool) { return impl.TouchingPairs(b, dice) }),
		outcome(t, "SumOfDice "+what, func() (int, bool) { return impl.SumOfDice(b, dice) }),
	}
}

// outcomesOfMoves calls each function whose arguments are a board, a list of states and a plan or a move.
func outcomesOfMoves(t *testing.T, b string, dice []impl.State, moves string) []string {
	what := fmt.Sprintf("%.60q %s %.80q", b, brief(dice), moves)
	out := []string{outcome(t, "MoveDice "+what, func() ([]impl.State, bool) { return impl.MoveDice(b, dice, moves) })}
	for _, k := range wildNumbers {
		out = append(out, outcome(t, fmt.Sprint("MoveOne ", k, what), func() ([]impl.State, bool) { return impl.MoveOne(b, dice, k, moves) }))
	}
	return out
}

// outcomesOfPlanGoals calls each function whose arguments are a board, a list of states and what a plan leads to.
func outcomesOfPlanGoals(t *testing.T, b string, dice []impl.State, goal []impl.State, cells [][]int) []string {
	what := fmt.Sprintf("%.60q %s %s %s", b, brief(dice), brief(goal), brief(cells))
	return []string{
		outcome(t, "PlanTo "+what, func() (string, bool) { return impl.PlanTo(b, dice, goal) }),
		outcome(t, "PlanToCells "+what, func() (string, bool) { return impl.PlanToCells(b, dice, cells) }),
	}
}

// outcomesOfPlan calls each function whose argument is a plan alone.
func outcomesOfPlan(t *testing.T, moves string) []string {
	what := fmt.Sprintf("%.80q", moves)
	return []string{
		outcome(t, "IsPlan "+what, alone(func() bool { return impl.IsPlan(moves) })),
		outcome(t, "BackPlan "+what, func() (string, bool) { return impl.BackPlan(moves) }),
	}
}

// allManyOutcomes calls all thirteen functions of several dice with all wild arguments.
func allManyOutcomes(t *testing.T) []string {
	var out []string
	for _, moves := range append(wildPlans(), wildTexts()...) {
		out = append(out, outcomesOfPlan(t, moves)...)
	}
	lists, cells := wildDiceLists(), wildCells()
	for i, b := range manyBoards() {
		for k, dice := range lists {
			out = append(out, outcomesOfDiceLists(t, b, dice)...)
			for _, moves := range []string{"", "n", "e", "s", "w"} {
				out = append(out, outcomesOfMoves(t, b, dice, moves)...)
			}
			for n, moves := range wildPlans() {
				if (i+k+n)%5 == 0 {
					out = append(out, outcomesOfMoves(t, b, dice, moves)...)
				}
			}
			for n, goal := range lists {
				if (i+k+n)%5 == 0 {
					out = append(out, outcomesOfPlanGoals(t, b, dice, goal, cells[(i+2*k+3*n)%len(cells)])...)
				}
			}
		}
	}
	return out
}

// The outcomes do not change from call to call, although lists that plans make are kept in a map.
func TestPromise11ManyAllArguments(t *testing.T) {
	expectSameOutcomes(t, allManyOutcomes)
}

// withRoom returns a list that has room behind it, all of it filled.
func withRoom[T any](list []T, filling T) []T {
	whole := append(slices.Clone(list), filling, filling, filling, filling)
	return whole[:len(list)]
}

// Neither the lists nor what is in the room behind them change, and this room is not read either.
func TestPromise11ManyArgumentsAreKept(t *testing.T) {
	lists, plans := wildDiceLists(), wildPlans()
	for i, b := range manyBoards() {
		for k, dice := range lists {
			goal, moves, cells := lists[(i+2*k)%len(lists)], plans[(i+k)%len(plans)], wildCells()[(i+k)%len(wildCells())]
			if len(dice) > 100 || len(goal) > 100 {
				continue
			}
			roomy, roomyGoal, roomyCells := withRoom(dice, state(2, 0, "777777")), withRoom(goal, state(2, 0, "777777")), withRoom(cells, []int{2, 0})
			for n := range roomyCells {
				roomyCells[n] = withRoom(cells[n], 5)
			}
			keptBoard, keptMoves := strings.Clone(b), strings.Clone(moves)
			given, givenGoal, givenCells := slices.Clone(dice), slices.Clone(goal), slices.Clone(cells)
			for n := range givenCells {
				givenCells[n] = slices.Clone(cells[n])
			}
			tight := slices.Concat(outcomesOfDiceLists(t, b, given), outcomesOfMoves(t, b, given, moves), outcomesOfPlanGoals(t, b, given, givenGoal, givenCells))
			loose := slices.Concat(outcomesOfDiceLists(t, b, roomy), outcomesOfMoves(t, b, roomy, moves), outcomesOfPlanGoals(t, b, roomy, roomyGoal, roomyCells))
			expectEqual(t, fmt.Sprint("outcomes with room behind lists ", b, dice), strings.Join(loose, "\n"), strings.Join(tight, "\n"))
			outcomesOfPlan(t, moves)
			isKept := b == keptBoard && moves == keptMoves && isWithRoom(roomy, dice, state(2, 0, "777777")) && isWithRoom(roomyGoal, goal, state(2, 0, "777777")) && len(roomyCells) == len(cells)
			for n := range cells {
				isKept = isKept && isWithRoom(roomyCells[n], cells[n], 5)
			}
			for _, room := range roomyCells[len(cells) : len(cells)+4] {
				isKept = isKept && slices.Equal(room, []int{2, 0})
			}
			expectEqual(t, fmt.Sprint("arguments are kept ", b, dice, goal, cells), isKept, true)
		}
	}
}

// isWithRoom reports whether a list made by withRoom is as it was.
func isWithRoom[T comparable](roomy []T, list []T, filling T) bool {
	return slices.Equal(roomy, list) && slices.Equal(roomy[len(list):len(list)+4], []T{filling, filling, filling, filling})
}

func TestPromise11ManyResultsAreNew(t *testing.T) {
	three := []impl.State{state(0, 0, "123456"), state(1, 0, "905172"), state(2, 0, "123456")}
	for n := 1; n <= 3; n++ {
		expectNew(t, fmt.Sprint("DiceMoves ", n), func() ([]string, bool) { return impl.DiceMoves(floorBoard(6, 6), three[:n]) })
		expectNew(t, fmt.Sprint("MoveOne ", n), func() ([]impl.State, bool) { return impl.MoveOne(floorBoard(6, 6), three[:n], 0, "s") })
		expectNew(t, fmt.Sprint("MoveDice ", n), func() ([]impl.State, bool) { return impl.MoveDice(floorBoard(6, 6), three[:n], "0s0n0s") })
		expectNew(t, fmt.Sprint("MoveDice without moves ", n), func() ([]impl.State, bool) { return impl.MoveDice(floorBoard(6, 6), three[:n], "") })
	}
	expectNew(t, "BlockedDice", func() ([]int, bool) { return impl.BlockedDice("...", three) })
}

// What is written to a result, or to the room behind it, does not come to the list that was given, and the other way round.
func TestPromise11ManyResultsAreApartFromArguments(t *testing.T) {
	for n := 1; n <= 3; n++ {
		for _, moves := range []string{"", "0s", "0s0n"} {
			dice := withRoom([]impl.State{state(0, 0, "123456"), state(1, 0, "905172"), state(2, 0, "000000")}[:n], state(5, 5, "777777"))
			given := slices.Clone(dice)
			got, ok := impl.MoveDice(floorBoard(6, 6), dice, moves)
			want := slices.Clone(got)
			_ = append(got, state(4, 4, "444444"))
			for k := range got {
				got[k] = state(4, 4, "444444")
			}
			expectList(t, fmt.Sprint("the list given to MoveDice ", n, moves), dice, ok && isWithRoom(dice, given, state(5, 5, "777777")), given)
			got, ok = impl.MoveDice(floorBoard(6, 6), dice, moves)
			clear(dice)
			expectList(t, fmt.Sprint("the result of MoveDice ", n, moves), got, ok, want)
		}
	}
}
