package tests

import (
	"fmt"
	"slices"
	"strings"
	"testing"

	"loop.example/g01207/impl"
)

func TestPromise8Constants(t *testing.T) {
	expectEqual(t, "MaxColors", impl.MaxColors, 9)
	expectEqual(t, "MaxTower", impl.MaxTower, 4)
}

func TestPromise8CountColorings(t *testing.T) {
	for i, want := range []int{1, 10, 57, 240, 800, 2226, 5390, 11712, 23355} {
		k := i + 1
		what := fmt.Sprint("CountColorings ", k)
		got, ok := impl.CountColorings(k)
		expectSuccess(t, what, got, ok, want)
		expectSuccess(t, what+" by the formula", got, ok, (k*k*k*k*k*k+3*k*k*k*k+12*k*k*k+8*k*k)/24)
		expectSuccess(t, what+" by counting them", got, ok, allColorings().upToRolls[k])
	}
}

func TestPromise8CountMirrored(t *testing.T) {
	for i, want := range []int{1, 10, 56, 220, 680, 1771, 4060, 8436, 16215} {
		k := i + 1
		what := fmt.Sprint("CountMirrored ", k)
		got, ok := impl.CountMirrored(k)
		expectSuccess(t, what, got, ok, want)
		expectSuccess(t, what+" by counting them", got, ok, allColorings().upToMirrors[k])
	}
}

// Each two colourings that are mirrors of one another, but not the same up to rolls, count for one.
func TestPromise8MirroredAreFewer(t *testing.T) {
	for k := 1; k <= 3; k++ {
		handed := 0
		for _, d := range allColorings().listed[k] {
			if is, ok := impl.IsHanded(d); is && ok {
				handed++
			}
		}
		all, _ := impl.CountColorings(k)
		mirrored, ok := impl.CountMirrored(k)
		expectSuccess(t, fmt.Sprint("CountMirrored ", k), mirrored, ok, all-handed/2)
	}
}

func TestPromise8ListColorings(t *testing.T) {
	for k := 1; k <= 3; k++ {
		what := fmt.Sprint("ListColorings ", k)
		got, ok := impl.ListColorings(k)
		expectList(t, what, got, ok, allColorings().listed[k])
		count, _ := impl.CountColorings(k)
		expectEqual(t, what+" are as many as are counted", len(got), count)
		for _, d := range got {
			least, ok := impl.LeastDie(d)
			expectSuccess(t, fmt.Sprint("LeastDie ", d), least, ok, d)
		}
	}
	two, ok := impl.ListColorings(2)
	expectList(t, "ListColorings 2", two, ok, diceFrom("000000 000001 000011 000111 001010 001011 001111 011110 011111 111111"))
}

// All dice of few numbers are the same up to rolls as just one of the list.
func TestPromise8EachDieIsListedOnce(t *testing.T) {
	for k := 1; k <= 3; k++ {
		list, _ := impl.ListColorings(k)
		for _, d := range diceUpTo(k) {
			same := 0
			for _, way := range waysInSpace(d) {
				if _, found := slices.BinarySearchFunc(list, way, func(d, e impl.Die) int { return slices.Compare(facesOf(d), facesOf(e)) }); found {
					same++
				}
			}
			expectEqual(t, fmt.Sprint("colourings listed that are the same as ", d), same, 1)
		}
	}
}

func TestPromise8CountKept(t *testing.T) {
	for _, word := range append(allWords(4), longestWords()...) {
		turn := shiftOf(matrixOfWord(word))
		for k := 1; k <= 9; k++ {
			got, ok := impl.CountKept(k, word)
			expectSuccess(t, fmt.Sprint("CountKept ", k, word), got, ok, allColorings().kept[turn][k])
		}
	}
	for word, want := range map[string]int{"": 64, "n": 8, "ew": 64, "ss": 16, "ne": 4, "nne": 8, "nnnn": 64} {
		got, ok := impl.CountKept(2, word)
		expectSuccess(t, "CountKept 2 "+word, got, ok, want)
	}
}

// firstTurns returns a word for each of the ways to turn a die.
func firstTurns(t *testing.T) []string {
	t.Helper()
	var words []string
	for _, way := range waysInSpace(die("123456")) {
		word, ok := impl.RollsBetween(die("123456"), way)
		expectEqual(t, fmt.Sprint("RollsBetween 123456 ", way), ok, true)
		words = append(words, word)
	}
	expectEqual(t, "ways to turn a die", len(words), 24)
	return words
}

// There are as many colourings as a turn leaves as they are on average, and that are as many as there are ways to colour its cycles.
func TestPromise8ColoringsAreCountedByCycles(t *testing.T) {
	words := firstTurns(t)
	for k := 1; k <= 9; k++ {
		sum := 0
		for _, word := range words {
			kept, ok := impl.CountKept(k, word)
			cycles, _ := impl.FaceCycles(word)
			power := 1
			for range cycles {
				power *= k
			}
			expectSuccess(t, fmt.Sprint("CountKept by cycles ", k, word), kept, ok, power)
			sum += kept
		}
		count, ok := impl.CountColorings(k)
		expectSuccess(t, fmt.Sprint("CountColorings by what is kept ", k), 24*count, ok, sum)
	}
}

func TestPromise8WrongColors(t *testing.T) {
	for _, k := range wrongColors() {
		count, ok := impl.CountColorings(k)
		expectFailure(t, fmt.Sprint("CountColorings ", k), count, ok)
		count, ok = impl.CountMirrored(k)
		expectFailure(t, fmt.Sprint("CountMirrored ", k), count, ok)
		list, ok := impl.ListColorings(k)
		expectNoList(t, fmt.Sprint("ListColorings ", k), list, ok)
		for _, word := range append(longestWords(), "", "n", "nesw", "x", longWord(61)) {
			count, ok = impl.CountKept(k, word)
			expectFailure(t, fmt.Sprintf("CountKept %d %q", k, word), count, ok)
		}
	}
	for k := 4; k <= 9; k++ {
		list, ok := impl.ListColorings(k)
		expectNoList(t, fmt.Sprint("ListColorings ", k), list, ok)
	}
}

func TestPromise8WrongWords(t *testing.T) {
	for _, word := range wrongWords() {
		cycles, ok := impl.FaceCycles(word)
		expectNoList(t, fmt.Sprintf("FaceCycles %.80q", word), cycles, ok)
		for k := 1; k <= 9; k++ {
			count, ok := impl.CountKept(k, word)
			expectFailure(t, fmt.Sprintf("CountKept %d %.80q", k, word), count, ok)
		}
	}
}

func TestPromise8FaceCycles(t *testing.T) {
	for _, word := range append(allWords(5), longestWords()...) {
		got, ok := impl.FaceCycles(word)
		expectList(t, "FaceCycles "+word, got, ok, shiftOf(matrixOfWord(word)).cycles())
		order, _ := impl.OrderOfRolls(word)
		expectEqual(t, "times until the longest of the FaceCycles of "+word, slices.Max(got), order)
	}
	for word, want := range map[string]string{"": "111111", "n": "114", "e": "114", "s": "114", "w": "114", "nn": "1122", "ee": "1122", "nnn": "114", "nnnn": "111111", "ne": "33", "nesw": "33", "nne": "222", "nes": "114"} {
		got, ok := impl.FaceCycles(word)
		expectEqual(t, "FaceCycles succeeds "+word, ok, true)
		expectEqual(t, "FaceCycles "+word, strings.Trim(strings.ReplaceAll(fmt.Sprint(got), " ", ""), "[]"), want)
	}
	cycles, ok := impl.FaceCycles(strings.Repeat("n", 60))
	expectList(t, "FaceCycles of sixty rolls", cycles, ok, []int{1, 1, 1, 1, 1, 1})
}

// All lists of up to nine numbers that are 6 together are counted, and together they are all colourings with as many colours.
func TestPromise8CountWithCounts(t *testing.T) {
	for k := 1; k <= 9; k++ {
		sum := 0
		for _, counts := range listsWithSum(k, 6) {
			var key [9]int
			copy(key[:], counts)
			got, ok := impl.CountWithCounts(counts)
			expectSuccess(t, fmt.Sprint("CountWithCounts ", counts), got, ok, allColorings().withCounts[key])
			sum += got
		}
		count, ok := impl.CountColorings(k)
		expectSuccess(t, fmt.Sprint("CountColorings by their counts ", k), count, ok, sum)
	}
	for _, c := range []struct {
		counts []int
		want   int
	}{
		{[]int{6}, 1}, {[]int{5, 1}, 1}, {[]int{4, 2}, 2}, {[]int{3, 3}, 2}, {[]int{2, 2, 2}, 6}, {[]int{1, 2, 3}, 3}, {[]int{4, 1, 1}, 2}, {[]int{1, 1, 1, 1, 1, 1}, 30}, {[]int{2, 1, 1, 1, 1}, 15}, {[]int{2, 2, 1, 1}, 8},
		{[]int{0, 6}, 1}, {[]int{0, 0, 0, 0, 0, 0, 0, 0, 6}, 1}, {[]int{0, 4, 0, 2, 0}, 2}, {[]int{0, 0, 0, 1, 1, 1, 1, 1, 1}, 30}, {[]int{6, 0, 0, 0, 0, 0, 0, 0, 0}, 1}, {[]int{2, 0, 2, 0, 2, 0, 0, 0, 0}, 6},
	} {
		got, ok := impl.CountWithCounts(c.counts)
		expectSuccess(t, fmt.Sprint("CountWithCounts ", c.counts), got, ok, c.want)
	}
}

func TestPromise8WrongCounts(t *testing.T) {
	for _, counts := range wrongCounts() {
		got, ok := impl.CountWithCounts(counts)
		expectFailure(t, "CountWithCounts "+brief(counts), got, ok)
	}
	for n := 1; n <= 9; n++ {
		for _, sum := range []int{0, 1, 5, 7} {
			for _, counts := range listsWithSum(n, sum) {
				got, ok := impl.CountWithCounts(counts)
				expectFailure(t, fmt.Sprint("CountWithCounts ", counts), got, ok)
			}
		}
	}
	// A list of ten numbers fails whatever they are.
	for _, counts := range listsWithSum(10, 6) {
		got, ok := impl.CountWithCounts(counts)
		expectFailure(t, fmt.Sprint("CountWithCounts ", counts), got, ok)
	}
}

func TestPromise8ColorsOf(t *testing.T) {
	for _, d := range slices.Concat(diceUpTo(4), sampleDice(), equalFaced(), differentDice()) {
		want := make([]int, 10)
		for number := range want {
			for _, face := range facesOf(d) {
				if face == number {
					want[number]++
				}
			}
		}
		got, ok := impl.ColorsOf(d)
		expectList(t, fmt.Sprint("ColorsOf ", d), got, ok, want)
		counted, ok := impl.CountWithCounts(got[:9])
		expectEqual(t, fmt.Sprint("CountWithCounts of a colouring ", d), ok && counted > 0, want[9] == 0)
	}
	for text, want := range map[string][]int{
		"000000": {6, 0, 0, 0, 0, 0, 0, 0, 0, 0}, "999999": {0, 0, 0, 0, 0, 0, 0, 0, 0, 6}, "090909": {3, 0, 0, 0, 0, 0, 0, 0, 0, 3},
		"123456": {0, 1, 1, 1, 1, 1, 1, 0, 0, 0}, "978978": {0, 0, 0, 0, 0, 0, 0, 2, 2, 2}, "100000": {5, 1, 0, 0, 0, 0, 0, 0, 0, 0}, "000009": {5, 0, 0, 0, 0, 0, 0, 0, 0, 1},
	} {
		got, ok := impl.ColorsOf(die(text))
		expectList(t, "ColorsOf "+text, got, ok, want)
	}
}

func TestPromise8PairsOf(t *testing.T) {
	for _, d := range slices.Concat(diceUpTo(4), sampleDice(), equalFaced(), differentDice()) {
		got, ok := impl.PairsOf(d)
		expectRows(t, fmt.Sprint("PairsOf ", d), got, ok, [][]int{pairOf(d, 0), pairOf(d, 1), pairOf(d, 2)})
	}
	for text, want := range map[string][][]int{
		"123456": {{2, 4}, {3, 5}, {1, 6}}, "654321": {{3, 5}, {2, 4}, {1, 6}}, "000000": {{0, 0}, {0, 0}, {0, 0}}, "999999": {{9, 9}, {9, 9}, {9, 9}}, "905172": {{0, 1}, {5, 7}, {2, 9}}, "090909": {{9, 9}, {0, 0}, {0, 9}}, "112211": {{1, 2}, {1, 2}, {1, 1}},
	} {
		got, ok := impl.PairsOf(die(text))
		expectRows(t, "PairsOf "+text, got, ok, want)
	}
}

func TestPromise8WrongDice(t *testing.T) {
	for _, d := range wrongDice() {
		colors, ok := impl.ColorsOf(d)
		expectNoList(t, fmt.Sprint("ColorsOf ", d), colors, ok)
		pairs, ok := impl.PairsOf(d)
		expectNoList(t, fmt.Sprint("PairsOf ", d), pairs, ok)
	}
}
