package tests

import (
	"fmt"
	"regexp"
	"slices"
	"strings"
	"testing"

	"loop.example/g01207/impl"
)

func TestPromise7Constants(t *testing.T) {
	expectEqual(t, "MaxDice", impl.MaxDice, 3)
	expectEqual(t, "MaxPlans", impl.MaxPlans, 6000)
}

// pair returns two dice of the document's example.
func pair() []impl.State {
	return []impl.State{state(0, 0, "123456"), state(1, 0, "123456")}
}

func TestPromise7Example(t *testing.T) {
	moves, ok := impl.DiceMoves("...", pair())
	expectList(t, "DiceMoves", moves, ok, []string{"1e"})
	blocked, ok := impl.BlockedDice("...", pair())
	expectList(t, "BlockedDice", blocked, ok, []int{0})
	moved, ok := impl.MoveDice("...", pair(), "1e0e")
	expectList(t, "MoveDice", moved, ok, []impl.State{state(1, 0, "521463"), state(2, 0, "521463")})
	swapped, ok := impl.SwapPlan("...", pair())
	expectFailure(t, "SwapPlan", swapped, ok)
}

func TestPromise7AreDice(t *testing.T) {
	for _, c := range diceCases() {
		got, ok := impl.AreDice(c.board, c.dice)
		expectSuccess(t, fmt.Sprint("AreDice ", c), got, ok, true)
	}
	for _, c := range wrongDiceLists() {
		got, ok := impl.AreDice(c.board, c.dice)
		expectSuccess(t, fmt.Sprintf("AreDice %.200q", fmt.Sprint(c)), got, ok, false)
	}
	for _, c := range wrongDiceBoards() {
		got, ok := impl.AreDice(c.board, c.dice)
		expectFailure(t, fmt.Sprintf("AreDice %.200q", fmt.Sprint(c)), got, ok)
	}
}

// Dice in one row or in one column are together; only both numbers of a cell make it the same.
func TestPromise7AreDiceInAllCells(t *testing.T) {
	for _, b := range []string{floorBoard(6, 6), floorBoard(7, 5), ".../.#.", "####/#..#/####"} {
		cells := planOf(b)
		for _, at := range cells.places() {
			for _, other := range cells.places() {
				dice := []impl.State{state(at.x, at.y, "123456"), state(other.x, other.y, "123456")}
				got, ok := impl.AreDice(b, dice)
				expectSuccess(t, fmt.Sprint("AreDice ", b, dice), got, ok, cells[at] && cells[other] && at != other)
			}
		}
	}
}

func TestPromise7DiceMoves(t *testing.T) {
	middle, beside := state(2, 2, "123456"), state(3, 2, "905172")
	for _, c := range []struct {
		board string
		dice  []impl.State
		want  string
	}{
		{".", []impl.State{state(0, 0, "123456")}, ""}, {"..", []impl.State{state(0, 0, "123456")}, "0e"}, {"..", pair(), ""}, {"..", []impl.State{state(1, 0, "123456"), state(0, 0, "123456")}, ""},
		{"...", []impl.State{state(2, 0, "123456"), state(0, 0, "123456")}, "0w 1e"}, {"../..", pair(), "0s 1s"}, {floorBoard(5, 5), []impl.State{middle}, "0n 0e 0s 0w"},
		{floorBoard(5, 5), []impl.State{middle, beside}, "0n 0s 0w 1n 1e 1s"}, {floorBoard(5, 5), []impl.State{beside, middle}, "0n 0e 0s 1n 1s 1w"},
		{floorBoard(5, 5), []impl.State{middle, beside, state(2, 3, "000000")}, "0n 0w 1n 1e 1s 2e 2s 2w"}, {floorBoard(5, 5), []impl.State{state(0, 4, "000000"), middle, beside}, "0n 0e 1n 1s 1w 2n 2e 2s"},
		{"...", []impl.State{state(0, 0, "123456"), state(1, 0, "123456"), state(2, 0, "123456")}, ""}, {"#.#/.../#.#", []impl.State{state(1, 0, "123456"), state(0, 1, "123456"), state(1, 2, "123456")}, "0s 1e 2n"},
	} {
		got, ok := impl.DiceMoves(c.board, c.dice)
		expectList(t, fmt.Sprint("DiceMoves ", c.board, c.dice), got, ok, strings.Fields(c.want))
	}
	for _, c := range diceCases() {
		got, ok := impl.DiceMoves(c.board, c.dice)
		expectList(t, fmt.Sprint("DiceMoves ", c), got, ok, planOf(c.board).diceMoves(c.dice))
	}
}

func TestPromise7MoveOne(t *testing.T) {
	for _, c := range diceCases() {
		cells := planOf(c.board)
		for _, move := range allDiceMoves {
			what := fmt.Sprint("MoveOne ", c, move)
			k := strings.Index("012", move[:1])
			got, ok := impl.MoveOne(c.board, c.dice, k, move[1:])
			want, can := cells.behind(c.dice, move)
			if !can {
				expectNoList(t, what, got, ok)
				continue
			}
			expectList(t, what, got, ok, want)
			are, ok := impl.AreDice(c.board, got)
			expectSuccess(t, "AreDice behind "+what, are, ok, true)
			back, ok := impl.MoveOne(c.board, got, k, backDirections[move[1:]])
			expectList(t, what+" and back", back, ok, c.dice)
		}
	}
}

func TestPromise7MoveOneFails(t *testing.T) {
	for i, c := range diceCases() {
		if i%7 > 0 {
			continue
		}
		for _, k := range wrongIndices(c.dice) {
			for _, dir := range []string{"n", "e", "s", "w"} {
				got, ok := impl.MoveOne(c.board, c.dice, k, dir)
				expectNoList(t, fmt.Sprint("MoveOne ", c, k, dir), got, ok)
			}
		}
	}
	// From the middle of the board all directions could be gone, and two moves or more as well.
	for _, dice := range [][]impl.State{{state(2, 2, "123456")}, {state(2, 2, "123456"), state(4, 4, "123456")}, {state(0, 0, "123456"), state(5, 0, "123456"), state(2, 2, "123456")}} {
		for _, dir := range append(wrongDirections(), "n0n", "n1e", "e2w", "0n", "1e") {
			for k := -1; k <= 3; k++ {
				got, ok := impl.MoveOne(floorBoard(6, 6), dice, k, dir)
				expectNoList(t, fmt.Sprintf("MoveOne %d in the direction %.80q", k, dir), got, ok)
			}
		}
	}
}

// A wall, a side, and another die, wherever it is in the list, keep a die from moving; what it could move to is empty then.
func TestPromise7MoveOneWhereItCannot(t *testing.T) {
	d, e, f := state(1, 1, "123456"), state(2, 1, "123456"), state(0, 0, "123456")
	for _, c := range []struct {
		board string
		dice  []impl.State
		k     int
		dir   string
		can   bool
	}{
		{".../...", []impl.State{d}, 0, "e", true}, {".../..#", []impl.State{d}, 0, "e", false}, {"../..", []impl.State{d}, 0, "e", false}, {".../...", []impl.State{d}, 0, "s", false}, {".../...", []impl.State{d}, 0, "n", true}, {".#./...", []impl.State{d}, 0, "n", false},
		{".../...", []impl.State{d, e}, 0, "e", false}, {".../...", []impl.State{e, d}, 1, "e", false}, {".../...", []impl.State{d, e}, 1, "w", false}, {".../...", []impl.State{e, d}, 0, "w", false}, {".../...", []impl.State{d, e}, 1, "n", true},
		{".../...", []impl.State{f, d, e}, 1, "e", false}, {".../...", []impl.State{e, f, d}, 2, "e", false}, {".../...", []impl.State{d, f, e}, 0, "e", false}, {".../...", []impl.State{d, f, e}, 0, "n", true}, {".../...", []impl.State{d, f, e}, 2, "n", true},
	} {
		_, ok := impl.MoveOne(c.board, c.dice, c.k, c.dir)
		expectEqual(t, fmt.Sprint("MoveOne succeeds ", c), ok, c.can)
	}
}

func TestPromise7MoveDice(t *testing.T) {
	for _, c := range diceCases() {
		got, ok := impl.MoveDice(c.board, c.dice, "")
		expectList(t, fmt.Sprint("MoveDice without moves ", c), got, ok, c.dice)
	}
	whole, stopped := 0, 0
	for i, c := range diceCases() {
		cells := planOf(c.board)
		if len(cells.diceMoves(c.dice)) == 0 || i%3 > 0 {
			continue
		}
		long := cells.longPlan(c.dice, 60)
		plans := []string{long, long[:118], long[:2], long[:20], long[:118] + "0n", long[:118] + "1e", long[:118] + "2s", long[:60] + long[:60], "0n" + long[:118], backwards(long), "0e1n2w"}
		for _, moves := range plans {
			what := fmt.Sprint("MoveDice ", c, moves)
			want, made := cells.replay(c.dice, moves)
			got, ok := impl.MoveDice(c.board, c.dice, moves)
			if made < len(moves)/2 {
				stopped++
				expectNoList(t, what, got, ok)
				continue
			}
			whole++
			expectList(t, what, got, ok, want)
			back, _ := impl.BackPlan(moves)
			again, ok := impl.MoveDice(c.board, got, back)
			expectList(t, what+" and back", again, ok, c.dice)
		}
	}
	expectEqual(t, "plans that can be made and such that cannot are tried", whole > 1000 && stopped > 1000, true)
}

// All plans of up to three moves, those of indices of which there is no die with them.
func TestPromise7MoveDiceOfAllShortPlans(t *testing.T) {
	plans := []string{""}
	for next := 0; len(plans[next]) < 6; next++ {
		for _, move := range allDiceMoves {
			plans = append(plans, plans[next]+move)
		}
	}
	for _, c := range []diceCase{
		{"..", pair()[:1]}, {"...", pair()}, {"../..", pair()}, {".../.#.", []impl.State{state(2, 1, "123456"), state(1, 0, "905172"), state(0, 0, "123456")}}, {".../.../...", []impl.State{state(1, 1, "123456"), state(1, 0, "905172"), state(0, 1, "112345")}},
	} {
		for _, moves := range plans {
			want, made := planOf(c.board).replay(c.dice, moves)
			got, ok := impl.MoveDice(c.board, c.dice, moves)
			if made < len(moves)/2 {
				expectNoList(t, fmt.Sprint("MoveDice ", c, moves), got, ok)
				continue
			}
			expectList(t, fmt.Sprint("MoveDice ", c, moves), got, ok, want)
		}
	}
}

func TestPromise7MoveDiceFails(t *testing.T) {
	for _, dice := range [][]impl.State{pair()[:1], pair(), {state(0, 0, "123456"), state(1, 0, "123456"), state(3, 3, "123456")}} {
		for _, moves := range wrongPlans() {
			got, ok := impl.MoveDice(floorBoard(6, 6), dice, moves)
			expectNoList(t, fmt.Sprintf("MoveDice %.140q", moves), got, ok)
		}
	}
	// The first moves could be made, but there is no such die, a wall, a side, or another die.
	for _, moves := range []string{"2e", "2w", "1e2e", "1e0e2n", "1e1e", "0e", "0w", "0n", "1s", "1e0e0e", strings.Repeat("1e1w", 29) + "1e1e", strings.Repeat("1e1w", 30) + "1e"} {
		got, ok := impl.MoveDice(".../#..", pair(), moves)
		if moves == "1s" {
			expectList(t, "MoveDice 1s", got, ok, []impl.State{state(0, 0, "123456"), state(1, 1, "263154")})
			continue
		}
		expectNoList(t, "MoveDice "+moves, got, ok)
	}
	got, ok := impl.MoveDice("...", pair()[:1], "1e")
	expectNoList(t, "MoveDice of a die that there is not", got, ok)
	got, ok = impl.MoveDice("...", pair(), strings.Repeat("1e1w", 30))
	expectList(t, "MoveDice of sixty moves", got, ok, pair())
}

func TestPromise7IsPlan(t *testing.T) {
	for _, moves := range append(slices.Clone(allDiceMoves), "", "0n0n", "0e1n", "2w1s0e", strings.Repeat("0e", 60), strings.Repeat("0n1e2s", 20), strings.Repeat("2w", 59), strings.Join(allDiceMoves, "")) {
		expectEqual(t, "IsPlan "+moves, impl.IsPlan(moves), true)
	}
	for _, moves := range wrongPlans() {
		expectEqual(t, fmt.Sprintf("IsPlan %.140q", moves), impl.IsPlan(moves), false)
	}
	for n := range 200 {
		expectEqual(t, fmt.Sprint("IsPlan of so many moves ", n), impl.IsPlan(strings.Repeat("1w", n)), n <= 60)
		expectEqual(t, fmt.Sprint("IsPlan of so many moves and an index ", n), impl.IsPlan(strings.Repeat("1w", n)+"1"), false)
	}
	for c := range 256 {
		sign := string([]byte{byte(c)})
		isIndex, isDir := strings.Contains("012", sign), strings.Contains(order, sign)
		expectEqual(t, fmt.Sprintf("IsPlan with the index %q", sign), impl.IsPlan(sign+"n"), isIndex)
		expectEqual(t, fmt.Sprintf("IsPlan with the direction %q", sign), impl.IsPlan("0"+sign), isDir)
		expectEqual(t, fmt.Sprintf("IsPlan with a later index %q", sign), impl.IsPlan("0n"+sign+"n"), isIndex)
		expectEqual(t, fmt.Sprintf("IsPlan with a later direction %q", sign), impl.IsPlan("0n0"+sign), isDir)
	}
}

func TestPromise7IsPlanOfAllShortTexts(t *testing.T) {
	plans := regexp.MustCompile(`\A([0-2][nesw])*\z`)
	texts := []string{""}
	for next := 0; len(texts[next]) < 5; next++ {
		for _, sign := range strings.Split("0123nesw ", "") {
			texts = append(texts, texts[next]+sign)
		}
	}
	for _, moves := range texts {
		expectEqual(t, fmt.Sprintf("IsPlan %q", moves), impl.IsPlan(moves), plans.MatchString(moves))
	}
}

func TestPromise7BlockedDice(t *testing.T) {
	three := []impl.State{state(0, 0, "123456"), state(1, 0, "123456"), state(2, 0, "123456")}
	for _, c := range []struct {
		board string
		dice  []impl.State
		want  []int
	}{
		{".", three[:1], []int{0}}, {"..", three[:1], nil}, {"..", pair(), []int{0, 1}}, {"...", pair(), []int{0}}, {"...", three[1:], []int{1}}, {"...", three, []int{0, 1, 2}}, {"....", three, []int{0, 1}}, {".../.#.", three, []int{1}}, {".../#..", three, []int{0}}, {".../...", three, nil}, {".../.##", three, []int{1, 2}},
		{"#.#/###", []impl.State{state(1, 0, "000000")}, []int{0}}, {"../..", []impl.State{state(0, 0, "000000"), state(0, 1, "000000"), state(1, 1, "000000")}, []int{1}},
	} {
		got, ok := impl.BlockedDice(c.board, c.dice)
		expectList(t, fmt.Sprint("BlockedDice ", c.board, c.dice), got, ok, c.want)
	}
	counts := map[place]int{}
	for _, c := range diceCases() {
		moves := strings.Join(planOf(c.board).diceMoves(c.dice), "")
		var want []int
		for k := range c.dice {
			if !strings.Contains(moves, fmt.Sprint(k)) {
				want = append(want, k)
			}
		}
		got, ok := impl.BlockedDice(c.board, c.dice)
		expectList(t, fmt.Sprint("BlockedDice ", c), got, ok, want)
		counts[place{len(c.dice), len(want)}]++
	}
	for dice := 1; dice <= 3; dice++ {
		for blocked := range dice + 1 {
			expectEqual(t, fmt.Sprint("so many blocked dice of so many are tried ", blocked, dice), counts[place{dice, blocked}] > 5, true)
		}
	}
}

func TestPromise7TouchingPairs(t *testing.T) {
	north, east := state(1, 0, "111811"), state(2, 1, "111181")
	south, west := state(1, 2, "181111"), state(0, 1, "118111")
	touched := state(1, 1, "188880")
	for _, c := range []struct {
		dice []impl.State
		want int
	}{
		{[]impl.State{touched}, 0}, {[]impl.State{touched, north}, 1}, {[]impl.State{touched, east}, 1}, {[]impl.State{touched, south}, 1}, {[]impl.State{touched, west}, 1},
		{[]impl.State{north, touched}, 1}, {[]impl.State{east, touched}, 1}, {[]impl.State{south, touched}, 1}, {[]impl.State{west, touched}, 1},
		{[]impl.State{touched, north, east}, 2}, {[]impl.State{south, touched, west}, 2}, {[]impl.State{north, south, touched}, 2}, {[]impl.State{north, east, south}, 0}, {[]impl.State{north, south}, 0},
		{[]impl.State{touched, state(1, 0, "811111")}, 0}, {[]impl.State{touched, state(1, 0, "181111")}, 0}, {[]impl.State{touched, state(2, 1, "118111")}, 0}, {[]impl.State{touched, state(0, 1, "111181")}, 0}, {[]impl.State{touched, state(1, 2, "111811")}, 0}, {[]impl.State{touched, state(1, 2, "888288")}, 1},
		// Next to each other only by a corner, and two cells apart.
		{[]impl.State{touched, state(0, 0, "888888")}, 0}, {[]impl.State{touched, state(2, 2, "888888")}, 0}, {[]impl.State{state(0, 1, "888888"), state(2, 1, "888888")}, 0}, {[]impl.State{state(0, 0, "888888"), state(0, 2, "888888")}, 0},
		// All three in a row, and around a corner.
		{[]impl.State{state(0, 0, "777777"), state(1, 0, "777777"), state(2, 0, "777777")}, 2}, {[]impl.State{state(0, 0, "777777"), state(2, 0, "777777"), state(1, 0, "777777")}, 2}, {[]impl.State{state(0, 0, "000000"), state(1, 0, "000000"), state(0, 1, "000000")}, 2},
	} {
		got, ok := impl.TouchingPairs(".../.../...", c.dice)
		expectSuccess(t, fmt.Sprint("TouchingPairs ", c.dice), got, ok, c.want)
	}
	// A row ends where the next one begins: the last cell of one does not touch the first one of the other.
	got, ok := impl.TouchingPairs("../..", []impl.State{state(1, 0, "888888"), state(0, 1, "888888")})
	expectSuccess(t, "TouchingPairs of the ends of rows", got, ok, 0)
}

// touchingInSpace counts the pairs of which one shows a face towards the other that is equal to the one that looks back.
func touchingInSpace(dice []impl.State) int {
	count := 0
	for _, s := range dice {
		for _, to := range dice {
			for dir, step := range steps {
				if (place{s.X + step.x, s.Y + step.y}) == placeOf(to) && faceTowards(s.Die, towards[dir]) == faceTowards(to.Die, vector{}.plus(towards[dir], -1)) {
					count++
				}
			}
		}
	}
	return count / 2
}

func faceTowards(d impl.Die, side vector) int {
	return facesOf(d)[slices.Index(sides, side)]
}

func TestPromise7TouchingPairsOfManyDice(t *testing.T) {
	counts := map[int]int{}
	texts := strings.Fields("121212 112233 123456 222222 121122 212121")
	for i, c := range diceCases() {
		dice := slices.Clone(c.dice)
		for k := range dice {
			dice[k].Die = die(texts[(i+k*(i/5+1))%len(texts)])
		}
		want := touchingInSpace(dice)
		counts[want]++
		got, ok := impl.TouchingPairs(c.board, dice)
		expectSuccess(t, fmt.Sprint("TouchingPairs ", c.board, dice), got, ok, want)
	}
	expectEqual(t, "no, one and two touching pairs are tried", counts[0] > 100 && counts[1] > 100 && counts[2] > 20, true)
}

func TestPromise7SumOfDice(t *testing.T) {
	for _, c := range diceCases() {
		want := 0
		for _, s := range c.dice {
			want += s.Die.Top
		}
		got, ok := impl.SumOfDice(c.board, c.dice)
		expectSuccess(t, fmt.Sprint("SumOfDice ", c), got, ok, want)
	}
	got, ok := impl.SumOfDice("...", []impl.State{state(0, 0, "900000"), state(1, 0, "900000"), state(2, 0, "900000")})
	expectSuccess(t, "SumOfDice of nines", got, ok, 27)
	got, ok = impl.SumOfDice("...", []impl.State{state(0, 0, "099999"), state(2, 0, "099999")})
	expectSuccess(t, "SumOfDice of zeros", got, ok, 0)
}

func TestPromise7BackPlan(t *testing.T) {
	for moves, want := range map[string]string{
		"": "", "0n": "0s", "0e": "0w", "0s": "0n", "0w": "0e", "1n": "1s", "2w": "2e", "0e1n": "1s0w", "0e0n": "0s0w", "0n1e2s0w": "0e2n1w0s", "1e0e": "0w1w",
		strings.Repeat("0e", 60): strings.Repeat("0w", 60), strings.Repeat("0n2w", 30): strings.Repeat("2e0s", 30), strings.Repeat("2s", 59) + "0e": "0w" + strings.Repeat("2n", 59),
	} {
		got, ok := impl.BackPlan(moves)
		expectSuccess(t, "BackPlan "+moves, got, ok, want)
	}
	for _, c := range diceCases() {
		if len(planOf(c.board).diceMoves(c.dice)) == 0 {
			continue
		}
		moves := planOf(c.board).longPlan(c.dice, 60)
		got, ok := impl.BackPlan(moves)
		expectSuccess(t, "BackPlan "+moves, got, ok, backwards(moves))
		again, ok := impl.BackPlan(got)
		expectSuccess(t, "BackPlan and back "+moves, again, ok, moves)
	}
	for _, moves := range wrongPlans() {
		got, ok := impl.BackPlan(moves)
		expectFailure(t, fmt.Sprintf("BackPlan %.140q", moves), got, ok)
	}
}

// toldOfDice is a call with a board and dice, its results told as a text: empty if they are zero.
type toldOfDice func(b string, dice []impl.State) (string, bool)

func toldDice[T comparable](call func(b string, dice []impl.State) (T, bool)) toldOfDice {
	return func(b string, dice []impl.State) (string, bool) {
		got, ok := call(b, dice)
		return shown(got), ok
	}
}

func toldLists[T any](call func(b string, dice []impl.State) ([]T, bool)) toldOfDice {
	return func(b string, dice []impl.State) (string, bool) {
		got, ok := call(b, dice)
		if len(got) == 0 {
			return "", ok
		}
		return fmt.Sprint(got), ok
	}
}

// diceCalls has a call of each function that takes a board and dice, but for AreDice.
var diceCalls = map[string]toldOfDice{
	"DiceMoves":     toldLists(impl.DiceMoves),
	"BlockedDice":   toldLists(impl.BlockedDice),
	"CountTogether": toldDice(impl.CountTogether),
	"SwapPlan":      toldDice(impl.SwapPlan),
	"TouchingPairs": toldDice(impl.TouchingPairs),
	"SumOfDice":     toldDice(impl.SumOfDice),
	"MoveOne 0e": toldLists(func(b string, dice []impl.State) ([]impl.State, bool) {
		return impl.MoveOne(b, dice, 0, "e")
	}),
	"MoveOne 1w": toldLists(func(b string, dice []impl.State) ([]impl.State, bool) {
		return impl.MoveOne(b, dice, 1, "w")
	}),
	"MoveDice without moves": toldLists(func(b string, dice []impl.State) ([]impl.State, bool) {
		return impl.MoveDice(b, dice, "")
	}),
	"MoveDice 1s": toldLists(func(b string, dice []impl.State) ([]impl.State, bool) {
		return impl.MoveDice(b, dice, "1s")
	}),
	"PlanTo itself": toldDice(func(b string, dice []impl.State) (string, bool) {
		return impl.PlanTo(b, dice, dice)
	}),
	"PlanToCells of its own": toldDice(func(b string, dice []impl.State) (string, bool) {
		var cells [][]int
		for _, s := range dice {
			cells = append(cells, []int{s.X, s.Y})
		}
		return impl.PlanToCells(b, dice, cells)
	}),
}

func TestPromise7WrongDiceFail(t *testing.T) {
	for name, call := range diceCalls {
		for i, c := range slices.Concat(wrongDiceLists(), wrongDiceBoards()) {
			got, ok := call(c.board, c.dice)
			expectFailure(t, fmt.Sprintf("%s %.60q and the wrong list %d", name, c.board, i), got, ok)
		}
	}
}
