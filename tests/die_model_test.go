package tests

import (
	"math"
	"slices"
	"strings"
	"sync"
	"testing"

	"loop.example/g01207/impl"
)

// The tests hold the program against dice in space: a face is told by the direction in which it looks,
// east, north and up being the axes, and a roll is a quarter turn of space.

type vector [3]int
type matrix [3]vector

var (
	up    = vector{0, 0, 1}
	north = vector{0, 1, 0}
	east  = vector{1, 0, 0}
	south = vector{0, -1, 0}
	west  = vector{-1, 0, 0}
	down  = vector{0, 0, -1}
)

var sides = []vector{up, north, east, south, west, down}

var still = matrix{{1, 0, 0}, {0, 1, 0}, {0, 0, 1}}

// quarter turns by a quarter clockwise, seen from above.
var quarter = matrix{{0, 1, 0}, {-1, 0, 0}, {0, 0, 1}}

var rollMatrices = map[byte]matrix{
	'n': {{1, 0, 0}, {0, 0, 1}, {0, -1, 0}},
	's': {{1, 0, 0}, {0, 0, -1}, {0, 1, 0}},
	'e': {{0, 0, 1}, {0, 1, 0}, {-1, 0, 0}},
	'w': {{0, 0, -1}, {0, 1, 0}, {1, 0, 0}},
}

func (m matrix) moved(v vector) vector {
	var to vector
	for i := range 3 {
		for j := range 3 {
			to[i] += m[i][j] * v[j]
		}
	}
	return to
}

func (m matrix) after(n matrix) matrix {
	var both matrix
	for i := range 3 {
		for j := range 3 {
			for k := range 3 {
				both[i][j] += m[i][k] * n[k][j]
			}
		}
	}
	return both
}

func (m matrix) determinant() int {
	return m[0][0]*(m[1][1]*m[2][2]-m[1][2]*m[2][1]) -
		m[0][1]*(m[1][0]*m[2][2]-m[1][2]*m[2][0]) +
		m[0][2]*(m[1][0]*m[2][1]-m[1][1]*m[2][0])
}

// rotations returns the 24 ways to turn a cube in space, found by their determinants and not by rolls.
func rotations() []matrix {
	var all []matrix
	for _, x := range sides {
		for _, y := range sides {
			for _, z := range sides {
				if m := (matrix{x, y, z}); m.determinant() == 1 {
					all = append(all, m)
				}
			}
		}
	}
	return all
}

func matrixOfWord(word string) matrix {
	m := still
	for i := range len(word) {
		m = rollMatrices[word[i]].after(m)
	}
	return m
}

func facesOf(d impl.Die) []int {
	return []int{d.Top, d.North, d.East, d.South, d.West, d.Bottom}
}

func dieOf(faces []int) impl.Die {
	return impl.Die{Top: faces[0], North: faces[1], East: faces[2], South: faces[3], West: faces[4], Bottom: faces[5]}
}

// movedDie returns the die whose faces a matrix has moved.
func movedDie(d impl.Die, m matrix) impl.Die {
	faces := make([]int, 6)
	for i, face := range facesOf(d) {
		faces[slices.Index(sides, m.moved(sides[i]))] = face
	}
	return dieOf(faces)
}

// waysInSpace returns the dice that the rotations make of a die, each once, in order.
func waysInSpace(d impl.Die) []impl.Die {
	var ways []impl.Die
	for _, m := range rotations() {
		ways = append(ways, movedDie(d, m))
	}
	slices.SortFunc(ways, func(a, b impl.Die) int { return slices.Compare(facesOf(a), facesOf(b)) })
	return slices.Compact(ways)
}

// allWords returns all words of at most n directions, shorter ones first, those of one length in order.
func allWords(n int) []string {
	words := []string{""}
	for from := 0; n > 0; n-- {
		to := len(words)
		for ; from < to; from++ {
			for _, dir := range []string{"n", "e", "s", "w"} {
				words = append(words, words[from]+dir)
			}
		}
	}
	return words
}

// turnWords has the first word, in order, of the shortest ones that make each turn.
var turnWords = sync.OnceValue(func() map[matrix]string {
	first := map[matrix]string{}
	for _, word := range allWords(5) {
		if _, found := first[matrixOfWord(word)]; !found {
			first[matrixOfWord(word)] = word
		}
	}
	return first
})

// die returns the die with six digits, read without the program.
func die(text string) impl.Die {
	faces := make([]int, 6)
	for i := range faces {
		faces[i] = int(text[i] - '0')
	}
	return dieOf(faces)
}

// diceUpTo returns all dice whose numbers are less than k.
func diceUpTo(k int) []impl.Die {
	var dice []impl.Die
	faces := make([]int, 6)
	for {
		dice = append(dice, dieOf(faces))
		place := 5
		for place >= 0 && faces[place] == k-1 {
			faces[place] = 0
			place--
		}
		if place < 0 {
			return dice
		}
		faces[place]++
	}
}

// sampleDice returns dice with different faces, with equal ones, and with the least and the greatest ones.
func sampleDice() []impl.Die {
	texts := strings.Fields("123456 123546 654321 987654 012345 905172 000000 999999 111112 211111 112233 121212 123321 112345 122345 123451 123459 900009 090909")
	var dice []impl.Die
	for _, text := range texts {
		dice = append(dice, die(text))
	}
	return dice
}

// wrongDice returns dice of which a number, each one in turn, is beyond its bounds.
func wrongDice() []impl.Die {
	var dice []impl.Die
	for place := range 6 {
		for _, number := range []int{-1, 10, 256, 265, math.MinInt, math.MaxInt} {
			faces := []int{1, 2, 3, 4, 5, 6}
			faces[place] = number
			dice = append(dice, dieOf(faces))
		}
	}
	return append(dice, dieOf([]int{-1, -1, -1, -1, -1, -1}), dieOf([]int{10, 10, 10, 10, 10, 10}))
}

// longWord returns a word of n directions without a plain pattern.
func longWord(n int) string {
	word := make([]byte, n)
	for i := range word {
		word[i] = "nesw"[(i*i+i/3)%4]
	}
	return string(word)
}

// longestWords returns words of exactly MaxRolls directions.
func longestWords() []string {
	return []string{longWord(60), strings.Repeat("n", 60), strings.Repeat("nesw", 15), strings.Repeat("wwsne", 12), strings.Repeat("n", 59) + "e"}
}

// wrongWords returns texts that are no words.
func wrongWords() []string {
	return []string{
		longWord(61), strings.Repeat("n", 61), strings.Repeat("nesw", 16), strings.Repeat("s", 5000),
		"N", "E", "S", "W", "x", " ", "n ", " n", "n e", "ne\n", "u", "d", "0", "ü", "nesw\x00", "\x00", "\xff", "nex", "xne", "nxe", "-", "n,e",
	}
}

// wrongDirections returns texts that are no directions.
func wrongDirections() []string {
	return append(wrongWords(), "", "nn", "ne", "sw", "nesw")
}

func expectEqual[T comparable](t *testing.T, what string, got, want T) {
	t.Helper()
	if got != want {
		t.Errorf("%s: got %v, want %v", what, got, want)
	}
}

// expectFailure checks that a call returned the zero value of each result.
func expectFailure[T comparable](t *testing.T, what string, got T, ok bool) {
	t.Helper()
	var zero T
	if ok || got != zero {
		t.Errorf("%s: got %v, %v, want a failure with a zero value", what, got, ok)
	}
}
