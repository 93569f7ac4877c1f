package tests

import (
	"fmt"
	"math"
	"slices"
	"strings"
	"testing"

	"loop.example/g01207/impl"
)

func TestPromise8SidesOfTower(t *testing.T) {
	for _, c := range []struct{ tower, want string }{
		{"123456", "2 3 4 5"}, {"123456 905172", "20 35 41 57"}, {"905172 123456", "02 53 14 75"}, {"000000 999999", "09 09 09 09"}, {"090909 909090 099990", "909 099 909 099"}, {"012349 112349 212349 312349", "1111 2222 3333 4444"}, {"123456 234561 345612 456123", "2345 3456 4561 5612"},
	} {
		got, ok := impl.SidesOfTower(diceFrom(c.tower))
		expectList(t, "SidesOfTower "+c.tower, got, ok, strings.Fields(c.want))
	}
	for _, p := range piles() {
		got, ok := impl.SidesOfTower(p.dice)
		expectList(t, fmt.Sprint("SidesOfTower ", p.dice), got, ok, []string{sideOf(p.dice, 1), sideOf(p.dice, 2), sideOf(p.dice, 3), sideOf(p.dice, 4)})
	}
}

// towerWith returns a tower with the numbers of its sides to the north, east, south and west; tops and bottoms are any numbers.
func towerWith(sides ...string) []impl.Die {
	var tower []impl.Die
	for i := range sides[0] {
		tower = append(tower, die(fmt.Sprint(i, sides[0][i:i+1], sides[1][i:i+1], sides[2][i:i+1], sides[3][i:i+1], 9-i)))
	}
	return tower
}

func TestPromise8IsTower(t *testing.T) {
	for _, c := range []struct {
		tower string
		want  bool
	}{
		{"011110", true}, {"111111", true}, {"911112", true}, {"111110", true}, {"123456", false}, {"000000", false}, {"011119", true}, {"011101", false}, {"022220", false}, {"099990", false},
		{"012210 021120", true}, {"021120 012210", true}, {"012210 012210", false}, {"011110 022220", true}, {"011110 033330", false}, {"000000 011110", false}, {"111111 222222", true}, {"022220 022220", false}, {"011110 011110", false},
		{"011110 022220 033330", true}, {"033330 011110 022220", true}, {"012310 023120 031230", true}, {"012310 023120 031220", false}, {"022220 022220 022220", false}, {"011110 022220 044440", false}, {"000000 033330 033330", false},
		{"011110 022220 033330 044440", true}, {"012340 023410 034120 041230", true}, {"012340 023410 034120 041220", false}, {"022220 022220 033330 033330", false}, {"011110 011110 044440 044440", false}, {"000000 011110 022220 033330", false}, {"099990 011110 022220 033330", false},
	} {
		got, ok := impl.IsTower(diceFrom(c.tower))
		expectSuccess(t, "IsTower "+c.tower, got, ok, c.want)
	}
	for _, p := range piles() {
		got, ok := impl.IsTower(p.dice)
		expectSuccess(t, fmt.Sprint("IsTower ", p.dice), got, ok, isFull(p.dice))
	}
}

// numbersInOrders returns the numbers 1, .., n in all their orders.
func numbersInOrders(n int) []string {
	if n == 0 {
		return []string{""}
	}
	var all []string
	for _, rest := range numbersInOrders(n - 1) {
		for at := range len(rest) + 1 {
			all = append(all, rest[:at]+fmt.Sprint(n)+rest[at:])
		}
	}
	return all
}

func TestPromise8IsTowerOfAllOrders(t *testing.T) {
	for n := 1; n <= 4; n++ {
		all := numbersInOrders(n)
		for i := range len(all) * len(all) {
			north, east, south, west := all[i%len(all)], all[i/len(all)], all[(5*i+i/len(all))%len(all)], all[(7*i+3)%len(all)]
			got, ok := impl.IsTower(towerWith(north, east, south, west))
			expectSuccess(t, fmt.Sprint("IsTower ", north, east, south, west), got, ok, true)
		}
	}
}

// A tower that is full on its other sides is full if one side has each number once, whatever else this side may have.
func TestPromise8IsTowerByOneSide(t *testing.T) {
	for n := 1; n <= 4; n++ {
		all := numbersInOrders(n)
		for number := range int(math.Pow10(n)) {
			text := fmt.Sprintf("%0*d", n, number)
			for side := range 4 {
				sides := []string{all[0], all[len(all)-1], all[len(all)/2], all[0]}
				sides[side] = text
				got, ok := impl.IsTower(towerWith(sides...))
				expectSuccess(t, fmt.Sprint("IsTower ", sides), got, ok, slices.Contains(all, text))
			}
		}
	}
}

func TestPromise8IsTowerFullOnSomeSides(t *testing.T) {
	for n := 1; n <= 4; n++ {
		full := "1234"[:n]
		for _, other := range []string{"0234"[:n], "2222"[:n], "5234"[:n], "9999"[:n], "0000"[:n], "1233"[4-n:], "2341"[:n-1] + "0"} {
			for which := range 16 {
				var sides []string
				for side := range 4 {
					sides = append(sides, []string{full, other}[which>>side&1])
				}
				got, ok := impl.IsTower(towerWith(sides...))
				expectSuccess(t, fmt.Sprint("IsTower ", sides), got, ok, which == 0)
			}
		}
	}
}

// fullTowerCases are lists of dice with the number of full towers and the first one of them.
var fullTowerCases = []struct {
	dice, first string
	count       int
}{
	{"011110", "011110", 1}, {"101011", "011110", 1}, {"211113", "211113", 2}, {"311112", "211113", 2}, {"131211", "211113", 2}, {"111111", "111111", 1}, {"111112", "111112", 2}, {"121111", "111112", 2}, {"911110", "011119", 2},
	{"123456", "", 0}, {"000000", "", 0}, {"222222", "", 0}, {"999999", "", 0}, {"111122", "", 0}, {"111000", "", 0},
	{"011110 922229", "011110 922229", 1}, {"922229 011110", "922229 011110", 1}, {"111111 222222", "111111 222222", 1}, {"011220 011220", "011220 022110", 4}, {"022110 101022", "011220 022110", 4}, {"012120 021210", "012120 021210", 2}, {"021210 012120", "012120 021210", 2},
	{"011110 011110", "", 0}, {"111111 333333", "", 0}, {"111111 000000", "", 0}, {"011220 010200", "", 0}, {"123456 123456", "", 0},
	{"011110 922229 533335", "011110 922229 533335", 1}, {"533335 011110 922229", "533335 011110 922229", 1}, {"111111 222222 333333", "111111 222222 333333", 1}, {"111111 222222 444444", "", 0}, {"222222 222222 222222", "", 0},
	{"011110 922229 533335 044440", "011110 922229 533335 044440", 1}, {"044440 533335 922229 011110", "044440 533335 922229 011110", 1}, {"444444 333333 222222 111111", "444444 333333 222222 111111", 1}, {"111111 222222 333333 555555", "", 0}, {"000000 111111 222222 333333", "", 0},
}

func TestPromise8FullTowers(t *testing.T) {
	for _, c := range fullTowerCases {
		dice := diceFrom(c.dice)
		count, ok := impl.CountTowers(dice)
		expectSuccess(t, "CountTowers "+c.dice, count, ok, c.count)
		first, ok := impl.FirstTower(dice)
		expectTower(t, "FirstTower "+c.dice, first, ok, diceFrom(c.first))
		has, ok := impl.HasTwoLoops(dice)
		expectSuccess(t, "HasTwoLoops "+c.dice, has, ok, c.count > 0)
	}
}

// expectTower checks that a call succeeded with a tower, or that it failed if there is none.
func expectTower(t *testing.T, what string, got []impl.Die, ok bool, want []impl.Die) {
	t.Helper()
	if len(want) == 0 {
		expectNoList(t, what, got, ok)
		return
	}
	expectList(t, what, got, ok, want)
}

func TestPromise8FirstTower(t *testing.T) {
	for _, p := range piles() {
		what := fmt.Sprint("FirstTower ", p.dice)
		want := p.first()
		if p.count() == 0 {
			want = nil
		}
		got, ok := impl.FirstTower(p.dice)
		expectTower(t, what, got, ok, want)
		if !ok {
			continue
		}
		is, ok := impl.IsTower(got)
		expectSuccess(t, "IsTower of "+what, is, ok, true)
		for i, d := range got {
			same, ok := impl.IsTurned(p.dice[i], d)
			expectSuccess(t, fmt.Sprint("IsTurned ", i, " of ", what), same, ok, true)
		}
	}
}

func TestPromise8CountTowers(t *testing.T) {
	for _, p := range piles() {
		got, ok := impl.CountTowers(p.dice)
		expectSuccess(t, fmt.Sprint("CountTowers ", p.dice), got, ok, p.count())
	}
}

// laid returns all lists of one way to lie for each die, in order.
func laid(dice []impl.Die) [][]impl.Die {
	if len(dice) == 0 {
		return [][]impl.Die{nil}
	}
	var all [][]impl.Die
	for _, way := range waysInSpace(dice[0]) {
		for _, rest := range laid(dice[1:]) {
			all = append(all, append([]impl.Die{way}, rest...))
		}
	}
	return all
}

// All lists of ways to lie are asked for whether they are full, one by one.
func TestPromise8FullTowersAmongAll(t *testing.T) {
	tried := map[int]int{}
	for i, p := range piles() {
		if len(p.dice) > 3 || len(p.dice) == 2 && i%40 > 0 {
			continue
		}
		if len(p.dice) == 3 && tried[3] == 25 {
			continue
		}
		tried[len(p.dice)]++
		var full [][]impl.Die
		for _, tower := range laid(p.dice) {
			if is, ok := impl.IsTower(tower); is && ok {
				full = append(full, tower)
			}
		}
		count, ok := impl.CountTowers(p.dice)
		expectSuccess(t, fmt.Sprint("CountTowers among all ", p.dice), count, ok, len(full))
		first, ok := impl.FirstTower(p.dice)
		expectTower(t, fmt.Sprint("FirstTower among all ", p.dice), first, ok, append(full, nil)[0])
	}
}

// How the given dice lie changes nothing, and their order changes only the towers themselves.
func TestPromise8TowersOfDiceInOtherWays(t *testing.T) {
	for i, p := range piles() {
		var lying []impl.Die
		for k, ways := range p.ways {
			lying = append(lying, ways[(5*i+7*k)%len(ways)])
		}
		what := fmt.Sprint(p.dice, lying)
		first, wasFull := impl.FirstTower(p.dice)
		again, isFull := impl.FirstTower(lying)
		expectEqual(t, "FirstTower of dice that lie in other ways "+what, wasFull == isFull && slices.Equal(first, again), true)
		count, _ := impl.CountTowers(p.dice)
		same, ok := impl.CountTowers(lying)
		expectSuccess(t, "CountTowers of dice that lie in other ways "+what, same, ok, count)
		loops, _ := impl.CountLoops(p.dice)
		same, ok = impl.CountLoops(lying)
		expectSuccess(t, "CountLoops of dice that lie in other ways "+what, same, ok, loops)
		slices.Reverse(lying)
		same, ok = impl.CountTowers(lying)
		expectSuccess(t, "CountTowers of dice in another order "+what, same, ok, count)
		same, ok = impl.CountLoops(lying)
		expectSuccess(t, "CountLoops of dice in another order "+what, same, ok, loops)
	}
}

// loopCases are lists of dice with their loops.
var loopCases = []struct {
	dice  string
	loops [][]int
	isTwo bool
}{
	{"123456", nil, false}, {"000000", nil, false}, {"222222", nil, false}, {"999999", nil, false}, {"012340", nil, false}, {"100000", nil, false},
	{"010100", [][]int{{0}}, false}, {"001010", [][]int{{1}}, false}, {"100001", [][]int{{2}}, false}, {"010109", [][]int{{0}}, false}, {"212140", [][]int{{0}}, false},
	{"011110", [][]int{{0}, {1}}, true}, {"101011", [][]int{{1}, {2}}, true}, {"110101", [][]int{{0}, {2}}, true}, {"111111", [][]int{{0}, {1}, {2}}, true},
	{"010100 020200", [][]int{{0, 0}}, false}, {"020200 010100", [][]int{{0, 0}}, false}, {"200002 010100", [][]int{{2, 0}}, false}, {"010200 010200", [][]int{{0, 0}}, false}, {"020100 100002", [][]int{{0, 2}}, false},
	{"010100 010100", nil, false}, {"010100 020300", nil, false}, {"010200 010300", nil, false}, {"010200 000000", nil, false}, {"010200 010000", nil, false}, {"030300 000000", nil, false}, {"020200 020200", nil, false}, {"111111 111111", nil, false}, {"123456 123456", nil, false},
	{"011220 010200", [][]int{{0, 0}, {1, 0}}, false}, {"010200 011220", [][]int{{0, 0}, {0, 1}}, false}, {"100202 010200", [][]int{{2, 0}}, false}, {"110202 010200", [][]int{{0, 0}, {2, 0}}, false},
	{"012120 021210", [][]int{{0, 0}, {1, 1}}, true}, {"012120 012120", [][]int{{0, 1}, {1, 0}}, true}, {"012120 212101", [][]int{{1, 0}}, false}, {"012120 221201", [][]int{{0, 0}}, false},
	{"011220 011220", [][]int{{0, 0}, {0, 1}, {1, 0}, {1, 1}}, true}, {"111222 111222", [][]int{{0, 0}, {0, 1}, {0, 2}, {1, 0}, {1, 1}, {1, 2}, {2, 0}, {2, 1}, {2, 2}}, true}, {"111222 010200", [][]int{{0, 0}, {1, 0}, {2, 0}}, false},
	{"010200 020300 010300", [][]int{{0, 0, 0}}, false}, {"010200 020300 030300", nil, false}, {"010100 020300 300002", [][]int{{0, 0, 2}}, false}, {"020200 020200 020200", nil, false}, {"010300 020200 010300", [][]int{{0, 0, 0}}, false}, {"010400 020300 010300", nil, false},
	{"012330 012330 012330", nil, false}, {"011320 022130 033210", [][]int{{0, 0, 0}, {1, 1, 1}}, true}, {"011320 022130 033210 044440", [][]int{{0, 0, 0, 0}, {0, 0, 0, 1}, {1, 1, 1, 0}, {1, 1, 1, 1}}, true},
	{"010200 020100 030400 040300", [][]int{{0, 0, 0, 0}}, false}, {"010200 020300 030400 040100", [][]int{{0, 0, 0, 0}}, false}, {"010100 020200 030300 040400", [][]int{{0, 0, 0, 0}}, false}, {"010200 020300 030400 050100", nil, false}, {"010200 020300 030400 000100", nil, false},
}

func TestPromise8LoopCases(t *testing.T) {
	for _, c := range loopCases {
		dice := diceFrom(c.dice)
		got, ok := impl.AllLoops(dice)
		expectRows(t, "AllLoops "+c.dice, got, ok, c.loops)
		count, ok := impl.CountLoops(dice)
		expectSuccess(t, "CountLoops "+c.dice, count, ok, len(c.loops))
		has, ok := impl.HasTwoLoops(dice)
		expectSuccess(t, "HasTwoLoops "+c.dice, has, ok, c.isTwo)
		_, ok = impl.FirstTower(dice)
		expectEqual(t, "FirstTower "+c.dice, ok, c.isTwo)
	}
}

func TestPromise8AllLoops(t *testing.T) {
	for _, p := range piles() {
		want := p.loops()
		got, ok := impl.AllLoops(p.dice)
		expectRows(t, fmt.Sprint("AllLoops ", p.dice), got, ok, want)
		expectEqual(t, fmt.Sprint("AllLoops are in order ", p.dice), slices.IsSortedFunc(got, slices.Compare), true)
		count, ok := impl.CountLoops(p.dice)
		expectSuccess(t, fmt.Sprint("CountLoops ", p.dice), count, ok, len(want))
	}
}

// Exactly if there are two loops without a common pair, there is a full tower.
func TestPromise8TwoLoopsMakeTowers(t *testing.T) {
	kinds := map[string]int{}
	for _, p := range piles() {
		loops := p.loops()
		want := hasTwoApart(loops)
		got, ok := impl.HasTwoLoops(p.dice)
		expectSuccess(t, fmt.Sprint("HasTwoLoops ", p.dice), got, ok, want)
		count, ok := impl.CountTowers(p.dice)
		expectSuccess(t, fmt.Sprint("CountTowers is greater than 0 ", p.dice), count > 0, ok, want)
		_, ok = impl.FirstTower(p.dice)
		expectEqual(t, fmt.Sprint("FirstTower exists ", p.dice), ok, want)
		kinds[fmt.Sprint(len(p.dice), min(len(loops), 2), want)]++
	}
	for n := 1; n <= 4; n++ {
		for _, kind := range []string{"0 false", "1 false", "2 false", "2 true"} {
			if n > 1 || kind != "2 false" {
				expectEqual(t, fmt.Sprint("lists of dice, loops and towers like ", n, " ", kind, " are told"), kinds[fmt.Sprint(n, " ", kind)] > 0, true)
			}
		}
	}
}

func TestPromise8TurnTower(t *testing.T) {
	for _, p := range piles() {
		turn := still
		for k := range 4 {
			var want []impl.Die
			for _, d := range p.dice {
				want = append(want, movedDie(d, turn))
			}
			got, ok := impl.TurnTower(p.dice, k)
			expectList(t, fmt.Sprint("TurnTower ", p.dice, k), got, ok, want)
			was, _ := impl.IsTower(p.dice)
			is, ok := impl.IsTower(got)
			expectSuccess(t, fmt.Sprint("IsTower of TurnTower ", p.dice, k), is, ok, was)
			turn = quarter.after(turn)
		}
	}
	got, ok := impl.TurnTower(diceFrom("123456 905172"), 1)
	expectList(t, "TurnTower 1", got, ok, diceFrom("152346 970512"))
	sides, ok := impl.SidesOfTower(got)
	expectList(t, "SidesOfTower behind a quarter", sides, ok, []string{"57", "20", "35", "41"})
}

// A full tower stays full when it is turned, and the first one is not behind it.
func TestPromise8FullTowersTurned(t *testing.T) {
	for _, p := range piles() {
		first, ok := impl.FirstTower(p.dice)
		for k := 0; ok && k < 4; k++ {
			turned, ok := impl.TurnTower(first, k)
			is, _ := impl.IsTower(turned)
			expectSuccess(t, fmt.Sprint("TurnTower of a full tower ", first, k), is, ok, true)
			expectEqual(t, fmt.Sprint("FirstTower is the first one ", first, k), slices.CompareFunc(first, turned, func(d, e impl.Die) int { return slices.Compare(facesOf(d), facesOf(e)) }) <= 0, true)
		}
	}
}

func TestPromise8WrongTurns(t *testing.T) {
	for _, k := range []int{-1, -2, -3, -4, 4, 5, 6, 7, 8, 12, 256, 257, 1 << 32, 1<<32 + 1, 1 << 62, math.MinInt, math.MinInt + 1, math.MaxInt - 3, math.MaxInt} {
		for n := 1; n <= 4; n++ {
			got, ok := impl.TurnTower(oneTower(n), k)
			expectNoList(t, fmt.Sprint("TurnTower ", n, " by ", k), got, ok)
		}
	}
}

func TestPromise8WrongTowers(t *testing.T) {
	for _, dice := range wrongTowers() {
		what := brief(dice)
		sides, ok := impl.SidesOfTower(dice)
		expectNoList(t, "SidesOfTower "+what, sides, ok)
		is, ok := impl.IsTower(dice)
		expectFailure(t, "IsTower "+what, is, ok)
		first, ok := impl.FirstTower(dice)
		expectNoList(t, "FirstTower "+what, first, ok)
		count, ok := impl.CountTowers(dice)
		expectFailure(t, "CountTowers "+what, count, ok)
		count, ok = impl.CountLoops(dice)
		expectFailure(t, "CountLoops "+what, count, ok)
		loops, ok := impl.AllLoops(dice)
		expectNoList(t, "AllLoops "+what, loops, ok)
		has, ok := impl.HasTwoLoops(dice)
		expectFailure(t, "HasTwoLoops "+what, has, ok)
		for k := range 4 {
			turned, ok := impl.TurnTower(dice, k)
			expectNoList(t, fmt.Sprint("TurnTower ", what, k), turned, ok)
		}
	}
}
