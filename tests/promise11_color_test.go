package tests

import (
	"fmt"
	"math"
	"slices"
	"strings"
	"testing"

	"loop.example/g01207/impl"
)

// wildTowers returns lists of dice and what is none.
func wildTowers() [][]impl.Die {
	towers := [][]impl.Die{
		nil, {}, {{}}, {{}, {}, {}, {}}, {{}, {}, {}, {}, {}}, diceFrom("123456"), diceFrom("011110"), diceFrom("011220 011220"), diceFrom("012120 021210"), diceFrom("123456 905172 000000"), diceFrom("131422 131422 131422 131422"), diceFrom("999999 999999 999999 999999"),
		oneTower(2), oneTower(4), slices.Repeat(oneTower(1), 5), slices.Repeat(oneTower(4), 1000),
	}
	for _, d := range wildDice() {
		towers = append(towers, []impl.Die{d}, []impl.Die{die("011110"), d}, []impl.Die{d, die("011110"), die("022220")}, []impl.Die{die("022220"), die("011110"), d, d}, slices.Repeat([]impl.Die{d}, 5))
	}
	return towers
}

// wildCounts returns numbers of faces of colours and what is none.
func wildCounts() [][]int {
	return append(wrongCounts(), []int{6}, []int{2, 2, 2}, []int{1, 1, 1, 1, 1, 1}, []int{0, 0, 0, 0, 0, 0, 0, 0, 6}, []int{1, 0, 2, 0, 3, 0, 0, 0, 0}, slices.Repeat([]int{math.MaxInt}, 9), slices.Repeat([]int{math.MinInt}, 9), make([]int, 1<<16))
}

// outcomesOfTower calls each function whose arguments are a list of dice and a number.
func outcomesOfTower(t *testing.T, dice []impl.Die) []string {
	what := brief(dice)
	out := []string{
		outcome(t, "SidesOfTower "+what, func() ([]string, bool) { return impl.SidesOfTower(dice) }),
		outcome(t, "IsTower "+what, func() (bool, bool) { return impl.IsTower(dice) }),
		outcome(t, "FirstTower "+what, func() ([]impl.Die, bool) { return impl.FirstTower(dice) }),
		outcome(t, "CountTowers "+what, func() (int, bool) { return impl.CountTowers(dice) }),
		outcome(t, "CountLoops "+what, func() (int, bool) { return impl.CountLoops(dice) }),
		outcome(t, "AllLoops "+what, func() ([][]int, bool) { return impl.AllLoops(dice) }),
		outcome(t, "HasTwoLoops "+what, func() (bool, bool) { return impl.HasTwoLoops(dice) }),
	}
	for _, k := range wildNumbers {
		out = append(out, outcome(t, fmt.Sprint("TurnTower ", k, what), func() ([]impl.Die, bool) { return impl.TurnTower(dice, k) }))
	}
	return out
}

// outcomesOfCounts calls the function whose argument is a list of numbers.
func outcomesOfCounts(t *testing.T, counts []int) string {
	return outcome(t, "CountWithCounts "+brief(counts), func() (int, bool) { return impl.CountWithCounts(counts) })
}

// outcomesOfColors calls each function whose arguments are a number of colours and a word.
func outcomesOfColors(t *testing.T, k int, word string) []string {
	return []string{
		outcome(t, fmt.Sprint("CountColorings ", k), func() (int, bool) { return impl.CountColorings(k) }),
		outcome(t, fmt.Sprint("CountMirrored ", k), func() (int, bool) { return impl.CountMirrored(k) }),
		outcome(t, fmt.Sprintf("CountKept %d %.80q", k, word), func() (int, bool) { return impl.CountKept(k, word) }),
		outcome(t, fmt.Sprintf("FaceCycles %.80q", word), func() ([]int, bool) { return impl.FaceCycles(word) }),
	}
}

// outcomesOfColored calls each function whose argument is a die.
func outcomesOfColored(t *testing.T, d impl.Die) []string {
	return []string{
		outcome(t, fmt.Sprint("ColorsOf ", d), func() ([]int, bool) { return impl.ColorsOf(d) }),
		outcome(t, fmt.Sprint("PairsOf ", d), func() ([][]int, bool) { return impl.PairsOf(d) }),
	}
}

// allColorOutcomes calls all sixteen functions with all wild arguments.
func allColorOutcomes(t *testing.T) []string {
	var out []string
	for _, dice := range wildTowers() {
		out = append(out, outcomesOfTower(t, dice)...)
	}
	for _, counts := range wildCounts() {
		out = append(out, outcomesOfCounts(t, counts))
	}
	for _, d := range wildDice() {
		out = append(out, outcomesOfColored(t, d)...)
	}
	for _, k := range slices.Concat(wrongColors(), wildNumbers, []int{5, 7, 8}) {
		out = append(out, outcome(t, fmt.Sprint("ListColorings ", k), func() ([]impl.Die, bool) { return impl.ListColorings(k) }))
		for _, word := range append(wildTexts(), "", "ne", "nne") {
			out = append(out, outcomesOfColors(t, k, word)...)
		}
	}
	return out
}

// The outcomes do not change from call to call, and a tower that cannot go on makes no call panic.
func TestPromise11ColorsAllArguments(t *testing.T) {
	expectSameOutcomes(t, allColorOutcomes)
}

// Neither the lists nor what is in the room behind them change, and this room is not read either.
func TestPromise11ColorsListsAreKept(t *testing.T) {
	filling := die("011110")
	for _, dice := range wildTowers() {
		roomy := withRoom(dice, filling)
		tight, loose := outcomesOfTower(t, slices.Clone(dice)), outcomesOfTower(t, roomy)
		expectEqual(t, "outcomes with room behind "+brief(dice), slices.Equal(tight, loose), true)
		expectEqual(t, "dice are kept "+brief(dice), isWithRoom(roomy, dice, filling), true)
	}
	for _, counts := range wildCounts() {
		roomy := withRoom(counts, 1)
		expectEqual(t, "outcome with room behind "+brief(counts), outcomesOfCounts(t, slices.Clone(counts)), outcomesOfCounts(t, roomy))
		expectEqual(t, "counts are kept "+brief(counts), isWithRoom(roomy, counts, 1), true)
	}
}

func TestPromise11ColorsArgumentsAreKept(t *testing.T) {
	for i, word := range append(wildTexts(), "", "ne") {
		kept := strings.Clone(word)
		outcomesOfColors(t, i%11, word)
		expectEqual(t, fmt.Sprintf("a word is kept %.80q", kept), word, kept)
	}
	for _, d := range wildDice() {
		kept := d
		outcomesOfColored(t, d)
		expectEqual(t, fmt.Sprint("a die is kept ", kept), d, kept)
	}
}

func TestPromise11ColorsResultsAreNew(t *testing.T) {
	for k := 1; k <= 3; k++ {
		expectNew(t, fmt.Sprint("ListColorings ", k), func() ([]impl.Die, bool) { return impl.ListColorings(k) })
	}
	for _, word := range append(longestWords(), "", "n", "ne") {
		expectNew(t, "FaceCycles "+word, func() ([]int, bool) { return impl.FaceCycles(word) })
	}
	for _, d := range sampleDice() {
		expectNew(t, fmt.Sprint("ColorsOf ", d), func() ([]int, bool) { return impl.ColorsOf(d) })
		expectNewRows(t, fmt.Sprint("PairsOf ", d), func() ([][]int, bool) { return impl.PairsOf(d) })
	}
	for _, dice := range append(samePiles(), diceFrom("011220 011220"), diceFrom("012120 021210")) {
		what := fmt.Sprint(dice)
		expectNew(t, "SidesOfTower "+what, func() ([]string, bool) { return impl.SidesOfTower(dice) })
		for k := range 4 {
			expectNew(t, fmt.Sprint("TurnTower ", k, what), func() ([]impl.Die, bool) { return impl.TurnTower(dice, k) })
		}
		if pileOf(dice).count() > 0 {
			expectNew(t, "FirstTower "+what, func() ([]impl.Die, bool) { return impl.FirstTower(dice) })
		}
		if len(pileOf(dice).loops()) > 0 {
			expectNewRows(t, "AllLoops "+what, func() ([][]int, bool) { return impl.AllLoops(dice) })
		}
	}
}

// expectNewRows checks that changing a row of a result, and what an append to it writes, changes neither other rows nor other results.
func expectNewRows(t *testing.T, what string, call func() ([][]int, bool)) {
	t.Helper()
	want, _ := call()
	for i := range want {
		want[i] = slices.Clone(want[i])
	}
	second, _ := call()
	for changed := range want {
		first, ok := call()
		for k := range first[changed] {
			first[changed][k] = -5
		}
		_ = append(first[changed], -6, -6)
		for i := range want {
			if i != changed && !slices.Equal(first[i], want[i]) {
				t.Errorf("two rows of %s share memory", what)
			}
		}
		_ = append(first, []int{-7})
		_ = append(first[:0], []int{-7})
		expectRows(t, what+" beside a changed result", second, ok, want)
		third, ok := call()
		expectRows(t, what+" behind a changed result", third, ok, want)
	}
}

// What is written to a result, or to the room behind it, does not come to the list that was given, and the other way round.
func TestPromise11ColorsResultsAreApartFromArguments(t *testing.T) {
	filling, strange := die("777777"), die("444444")
	calls := map[string]func([]impl.Die) ([]impl.Die, bool){"FirstTower": impl.FirstTower}
	for k := range 4 {
		calls[fmt.Sprint("TurnTower by ", k)] = func(dice []impl.Die) ([]impl.Die, bool) { return impl.TurnTower(dice, k) }
	}
	for name, call := range calls {
		for n := 1; n <= 4; n++ {
			what := fmt.Sprint(name, " of ", n)
			dice := withRoom(oneTower(n), filling)
			got, ok := call(dice)
			want := slices.Clone(got)
			_ = append(got, strange)
			for i := range got {
				got[i] = strange
			}
			expectList(t, "the list given to "+what, dice, ok && isWithRoom(dice, oneTower(n), filling), oneTower(n))
			got, ok = call(dice)
			clear(dice)
			expectList(t, "the result of "+what, got, ok, want)
		}
	}
}
