package impl

import (
	"maps"
	"slices"
	"strings"
)

const MaxFace = 9
const MaxRolls = 60

type Die struct {
	Top    int
	North  int
	East   int
	South  int
	West   int
	Bottom int
}

// directions has the directions in the order in which words are compared.
const directions = "nesw"

// maxWays is how many ways to lie a die has at most.
const maxWays = 24

// oppositePlaces tells, for each place in the order of the type Die, the place opposite to it.
var oppositePlaces = [6]int{5, 3, 4, 1, 2, 0}

// IsDie reports whether d, whose numbers may be any, is a die.
func IsDie(d Die) bool {
	for _, face := range facesOf(d) {
		if face < 0 || face > MaxFace {
			return false
		}
	}
	return true
}

// RollDie returns the die rolled.
func RollDie(d Die, dir string) (Die, bool) {
	if !IsDie(d) || !isDirection(dir) {
		return Die{}, false
	}
	return rolled(d, dir[0]), true
}

// TurnDie returns the die turned by k quarters, k in 0..3.
func TurnDie(d Die, k int) (Die, bool) {
	if !IsDie(d) || k < 0 || k > 3 {
		return Die{}, false
	}
	for range k {
		d.North, d.East, d.South, d.West = d.West, d.North, d.East, d.South
	}
	return d, true
}

// IsRolls reports whether a text is a word.
func IsRolls(word string) bool {
	return len(word) <= MaxRolls && hasOnly(word, directions)
}

// RollWord returns the die rolled in all directions of a word, one after the other.
func RollWord(d Die, word string) (Die, bool) {
	if !IsDie(d) || !IsRolls(word) {
		return Die{}, false
	}
	return rolledAlong(d, word), true
}

// BackWord returns the word that undoes a word: backwards, with the opposite directions.
func BackWord(word string) (string, bool) {
	if !IsRolls(word) {
		return "", false
	}
	back := make([]byte, 0, len(word))
	for i := len(word) - 1; i >= 0; i-- {
		back = append(back, oppositeDirection(word[i]))
	}
	return string(back), true
}

// OrderOfRolls returns how often a word has to be done, at least once, until each die lies as before: 1, 2, 3 or 4.
func OrderOfRolls(word string) (int, bool) {
	if !IsRolls(word) {
		return 0, false
	}
	start := markedDie()
	times := 1
	for d := rolledAlong(start, word); d != start; d = rolledAlong(d, word) {
		times++
	}
	return times, true
}

// AreSameRolls reports whether two words make the same of each die.
func AreSameRolls(v string, w string) (bool, bool) {
	if !IsRolls(v) || !IsRolls(w) {
		return false, false
	}
	start := markedDie()
	return rolledAlong(start, v) == rolledAlong(start, w), true
}

// ShortestRolls returns the shortest word that makes the same of each die, of these the first one in the order of n, e, s, w.
func ShortestRolls(word string) (string, bool) {
	if !IsRolls(word) {
		return "", false
	}
	start := markedDie()
	return firstWords(start)[rolledAlong(start, word)], true
}

// WaysToLie returns all dice that rolls make of a die, each once, in the order of their numbers, Top first, then North, and so on as in the type.
func WaysToLie(d Die) ([]Die, bool) {
	if !IsDie(d) {
		return nil, false
	}
	return slices.SortedFunc(maps.Keys(firstWords(d)), compareDice), true
}

// CountWays returns how many these are: 24 if all faces differ; 24 is a multiple of it.
func CountWays(d Die) (int, bool) {
	if !IsDie(d) {
		return 0, false
	}
	return len(firstWords(d)), true
}

// IsTurned reports whether rolls make e of d.
func IsTurned(d Die, e Die) (bool, bool) {
	if !IsDie(d) || !IsDie(e) {
		return false, false
	}
	_, found := firstWords(d)[e]
	return found, true
}

// RollsBetween returns the shortest word that makes e of d, of these the first one in this order. It fails if there is none.
func RollsBetween(d Die, e Die) (string, bool) {
	if !IsDie(d) || !IsDie(e) {
		return "", false
	}
	word, found := firstWords(d)[e]
	return word, found
}

// LeastDie returns the first of WaysToLie.
func LeastDie(d Die) (Die, bool) {
	ways, ok := WaysToLie(d)
	if !ok {
		return Die{}, false
	}
	return ways[0], true
}

// MirrorDie returns the die with the faces of the east and the west exchanged.
func MirrorDie(d Die) (Die, bool) {
	if !IsDie(d) {
		return Die{}, false
	}
	d.East, d.West = d.West, d.East
	return d, true
}

// IsHanded reports whether rolls do not make the mirrored die of a die.
func IsHanded(d Die) (bool, bool) {
	mirrored, ok := MirrorDie(d)
	if !ok {
		return false, false
	}
	_, found := firstWords(d)[mirrored]
	return !found, true
}

// OppositeOf returns the number of the face that is opposite to the one with a number. It fails unless just one face has this number.
func OppositeOf(d Die, face int) (int, bool) {
	if !IsDie(d) {
		return 0, false
	}
	faces := facesOf(d)
	opposite, count := 0, 0
	for place, number := range faces {
		if number == face {
			opposite = faces[oppositePlaces[place]]
			count++
		}
	}
	if count != 1 {
		return 0, false
	}
	return opposite, true
}

// IsCommonDie reports whether a die has the faces 1 to 6 with opposite ones that add up to 7; the die may be any six numbers.
func IsCommonDie(d Die) bool {
	faces := facesOf(d)
	for number := 1; number <= 6; number++ {
		place := slices.Index(faces[:], number)
		if place < 0 || faces[oppositePlaces[place]] != 7-number {
			return false
		}
	}
	return true
}

// DieText returns the six numbers as digits, in the order of the type.
func DieText(d Die) (string, bool) {
	if !IsDie(d) {
		return "", false
	}
	var text [6]byte
	for place, number := range facesOf(d) {
		text[place] = digitOf(number)
	}
	return string(text[:]), true
}

// ParseDie returns the die with a DieText. It fails if there is none.
func ParseDie(s string) (Die, bool) {
	var faces [6]int
	if len(s) != len(faces) {
		return Die{}, false
	}
	for place := range faces {
		faces[place] = int(s[place]) - '0'
	}
	d := dieOf(faces)
	if !IsDie(d) {
		return Die{}, false
	}
	return d, true
}

// facesOf returns the numbers of a die in the order of the type.
func facesOf(d Die) [6]int {
	return [6]int{d.Top, d.North, d.East, d.South, d.West, d.Bottom}
}

// dieOf returns the die with numbers in the order of the type.
func dieOf(faces [6]int) Die {
	return Die{Top: faces[0], North: faces[1], East: faces[2], South: faces[3], West: faces[4], Bottom: faces[5]}
}

// digitOf returns the digit of a face, or of its label on a board.
func digitOf(number int) byte {
	return '0' + byte(number)
}

// hasOnly reports whether all signs of a text are some of those told.
func hasOnly(text string, signs string) bool {
	for i := range len(text) {
		if strings.IndexByte(signs, text[i]) < 0 {
			return false
		}
	}
	return true
}

func isDigit(sign byte) bool {
	return sign >= '0' && sign <= '9'
}

func countDigits(s string) int {
	count := 0
	for i := range len(s) {
		if isDigit(s[i]) {
			count++
		}
	}
	return count
}

// compareDice orders dice by their numbers in the order of the type.
func compareDice(d Die, e Die) int {
	first, second := facesOf(d), facesOf(e)
	return slices.Compare(first[:], second[:])
}

// markedDie returns a die whose faces all differ: words that make the same of it make the same of each die.
func markedDie() Die {
	return Die{Top: 1, North: 2, East: 3, South: 4, West: 5, Bottom: 6}
}

func isDirection(dir string) bool {
	return len(dir) == 1 && IsRolls(dir)
}

func oppositeDirection(dir byte) byte {
	switch dir {
	case 'n':
		return 's'
	case 'e':
		return 'w'
	case 's':
		return 'n'
	}
	return 'e'
}

// rolled returns the die rolled in one of the four directions.
func rolled(d Die, dir byte) Die {
	switch dir {
	case 'n':
		d.Top, d.North, d.Bottom, d.South = d.South, d.Top, d.North, d.Bottom
	case 'e':
		d.Top, d.East, d.Bottom, d.West = d.West, d.Top, d.East, d.Bottom
	case 's':
		d.Top, d.South, d.Bottom, d.North = d.North, d.Top, d.South, d.Bottom
	case 'w':
		d.Top, d.West, d.Bottom, d.East = d.East, d.Top, d.West, d.Bottom
	}
	return d
}

func rolledAlong(d Die, word string) Die {
	for i := range len(word) {
		d = rolled(d, word[i])
	}
	return d
}

// firstWords returns all dice that rolls make of d, each with the first one of the shortest words that make it.
func firstWords(d Die) map[Die]string {
	words, _ := searchedWords(d, allRolls(), rollBy(rolled, IsDie), maxWays)
	return words
}

// allRolls returns the moves of what rolls alone: the directions in their order.
func allRolls() []string {
	return strings.Split(directions, "")
}

// rollBy returns what rolls a node in a direction, and tells whether the node behind the roll fits.
func rollBy[Node any](roll func(Node, byte) Node, fits func(Node) bool) func(Node, string) (Node, bool) {
	return func(from Node, dir string) (Node, bool) {
		to := roll(from, dir[0])
		return to, fits(to)
	}
}

// possibleMoves returns those of some moves that can be made, in their order.
func possibleMoves[Node any](from Node, moves []string, moved func(Node, string) (Node, bool)) []string {
	var possible []string
	for _, move := range moves {
		if _, can := moved(from, move); can {
			possible = append(possible, move)
		}
	}
	return possible
}

// searchedWords returns all nodes that moves make of a first one, each with the first one, in the order of the moves, of the shortest words of moves that make it. It fails if they are more than most.
// Nodes found come over the channel in the order of their words, shorter ones first, so the word that finds a node is its first one. There is room for each node once, so that no send has to wait.
func searchedWords[Node comparable](first Node, moves []string, moved func(Node, string) (Node, bool), most int) (map[Node]string, bool) {
	words := map[Node]string{first: ""}
	found := make(chan Node, most)
	found <- first
	for {
		select {
		case from := <-found:
			for _, move := range moves {
				to, can := moved(from, move)
				if _, known := words[to]; known || !can {
					continue
				}
				if len(words) == most {
					return nil, false
				}
				words[to] = words[from] + move
				found <- to
			}
		default:
			return words, true
		}
	}
}
