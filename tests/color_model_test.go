package tests

import (
	"fmt"
	"math"
	"slices"
	"strings"
	"sync"
	"testing"

	"loop.example/g01207/impl"
)

// The tests hold colourings against all dice there are, each moved in all ways in which space can be turned or mirrored,
// and towers against the numbers that their sides still lack, die by die.

// shift tells for each place of faces, in the order of the type, where its face comes to.
type shift [6]int

func shiftOf(m matrix) shift {
	var s shift
	for i, side := range sides {
		s[i] = slices.Index(sides, m.moved(side))
	}
	return s
}

func (s shift) moved(faces [6]int) [6]int {
	var to [6]int
	for i, face := range faces {
		to[s[i]] = face
	}
	return to
}

// cycles returns the lengths of the cycles of a shift, followed from the least place of each, not falling.
func (s shift) cycles() []int {
	var lengths []int
	for start := range s {
		length, least := 1, start
		for at := s[start]; at != start; at = s[at] {
			least = min(least, at)
			length++
		}
		if least == start {
			lengths = append(lengths, length)
		}
	}
	slices.Sort(lengths)
	return lengths
}

// turnsInSpace returns the 24 ways to turn the places of faces.
func turnsInSpace() []shift {
	var turns []shift
	for _, m := range rotations() {
		turns = append(turns, shiftOf(m))
	}
	return turns
}

// mirrorsInSpace returns the 24 ways to mirror the places of faces.
func mirrorsInSpace() []shift {
	var mirrors []shift
	for _, x := range sides {
		for _, y := range sides {
			for _, z := range sides {
				if m := (matrix{x, y, z}); m.determinant() == -1 {
					mirrors = append(mirrors, shiftOf(m))
				}
			}
		}
	}
	return mirrors
}

// census is what counting all dice with numbers up to 8 one by one comes to; its arrays are told by the number of colours.
type census struct {
	upToRolls   [10]int
	upToMirrors [10]int
	kept        map[shift]*[10]int
	withCounts  map[[9]int]int
	listed      [10][]impl.Die
}

// isLeast reports whether none of some shifts makes lesser numbers of faces.
func isLeast(faces [6]int, shifts []shift) bool {
	return !slices.ContainsFunc(shifts, func(s shift) bool {
		moved := s.moved(faces)
		return slices.Compare(moved[:], faces[:]) < 0
	})
}

func (c *census) count(faces [6]int, turns []shift, mirrors []shift) {
	colors := slices.Max(faces[:]) + 1
	for _, turn := range turns {
		if turn.moved(faces) == faces {
			c.kept[turn][colors]++
		}
	}
	if !isLeast(faces, turns) {
		return
	}
	c.upToRolls[colors]++
	if isLeast(faces, mirrors) {
		c.upToMirrors[colors]++
	}
	var counts [9]int
	for _, face := range faces {
		counts[face]++
	}
	c.withCounts[counts]++
	for k := colors; k <= 3; k++ {
		c.listed[k] = append(c.listed[k], dieOf(faces[:]))
	}
}

var allColorings = sync.OnceValue(func() *census {
	c := &census{kept: map[shift]*[10]int{}, withCounts: map[[9]int]int{}}
	turns, mirrors := turnsInSpace(), mirrorsInSpace()
	for _, turn := range turns {
		c.kept[turn] = &[10]int{}
	}
	for number := range 9 * 9 * 9 * 9 * 9 * 9 {
		var faces [6]int
		for place := 5; place >= 0; place-- {
			faces[place] = number % 9
			number /= 9
		}
		c.count(faces, turns, mirrors)
	}
	// So far dice are counted with the number of colours that they need; they are colourings with more as well.
	for k := 1; k < 10; k++ {
		c.upToRolls[k] += c.upToRolls[k-1]
		c.upToMirrors[k] += c.upToMirrors[k-1]
		for _, kept := range c.kept {
			kept[k] += kept[k-1]
		}
	}
	return c
})

// wrongColors returns numbers of colours that there are not.
func wrongColors() []int {
	return []int{0, 10, 11, 12, 24, 48, 100, 256, 257, 1 << 32, 1<<32 + 2, 1 << 62, -1, -2, -3, -9, math.MinInt, math.MinInt + 1, math.MinInt + 3, math.MaxInt - 1, math.MaxInt}
}

// listsWithSum returns all lists of n numbers, each at least 0, that are a sum together.
func listsWithSum(n int, sum int) [][]int {
	if n == 0 {
		if sum > 0 {
			return nil
		}
		return [][]int{nil}
	}
	var all [][]int
	for first := range sum + 1 {
		for _, rest := range listsWithSum(n-1, sum-first) {
			all = append(all, append([]int{first}, rest...))
		}
	}
	return all
}

// wrongCounts returns lists that are no numbers of faces of colours, some with sums that wrap around to 6.
func wrongCounts() [][]int {
	wrong := [][]int{
		nil, {}, {0}, {5}, {7}, {-6}, {60}, {0, 0, 0}, {3, 2}, {3, 4}, {2, 2, 1}, {2, 2, 3}, {1, 1, 1, 1, 1}, {1, 1, 1, 1, 1, 1, 1}, {6, 6}, {6, 1}, {6, 0, 0, 0, 0, 0, 0, 0, 1},
		{0, 0, 0, 0, 0, 0, 0, 0, 0}, {1, 1, 1, 1, 1, 1, 1, 1, 1}, {0, 0, 0, 0, 0, 0, 0, 0, 5}, {0, 0, 0, 0, 0, 0, 0, 0, 7},
		{6, 0, 0, 0, 0, 0, 0, 0, 0, 0}, {0, 0, 0, 0, 0, 0, 0, 0, 0, 6}, {1, 1, 1, 1, 1, 1, 0, 0, 0, 0}, {1, 1, 1, 1, 1, 0, 0, 0, 0, 1}, append([]int{6}, make([]int, 5000)...), append(make([]int, 5000), 6),
		{7, -1}, {-1, 7}, {6, 1, -1}, {6, -1, 1}, {-1, 6, 1}, {8, -1, -1}, {3, 3, 3, -3}, {2, 2, 2, 2, -2}, {5, -1, 2}, {-6, 6, 6}, {6, -6}, {6, -1}, {5, -1}, {0, 0, 0, 0, 0, 0, 0, -1, 7},
		{math.MaxInt, math.MaxInt, 8}, {8, math.MaxInt, math.MaxInt}, {math.MaxInt, 8, math.MaxInt}, {1 << 62, 1 << 62, 1 << 62, 1 << 62, 6}, {6, 1 << 62, 1 << 62, 1 << 62, 1 << 62}, {1 << 62, 1 << 62, 2, 2, 2, 1 << 62, 1 << 62},
		{math.MinInt, math.MinInt, 6}, {6, math.MinInt, math.MinInt}, {math.MaxInt, math.MinInt, 7}, {math.MinInt, math.MaxInt, 1, 6}, {math.MaxInt}, {math.MinInt}, {math.MaxInt, math.MaxInt, math.MaxInt},
		{1 << 32, 6}, {1<<32 + 6}, {256, 6}, {262}, {math.MaxInt, 7},
	}
	return wrong
}

// sideOf returns the numbers of a side of a tower, told by its place in the order of the type, as a text.
func sideOf(tower []impl.Die, place int) string {
	var text strings.Builder
	for _, d := range tower {
		text.WriteString(fmt.Sprint(facesOf(d)[place]))
	}
	return text.String()
}

// isFull reports whether each side of a tower, its numbers put into order, is the beginning of 1234.
func isFull(tower []impl.Die) bool {
	for place := 1; place <= 4; place++ {
		side := []byte(sideOf(tower, place))
		slices.Sort(side)
		if string(side) != "1234"[:len(tower)] {
			return false
		}
	}
	return true
}

// lack has for each side the numbers that are still to come, as bits.
type lack [4]int

// behind returns what a tower lacks behind one more die, if it lacked all the numbers that the die has.
func (l lack) behind(d impl.Die) (lack, bool) {
	for i, number := range []int{d.North, d.East, d.South, d.West} {
		bit := 1 << number
		if l[i]&bit == 0 {
			return lack{}, false
		}
		l[i] -= bit
	}
	return l, true
}

// pile knows, for a list of dice, all ways in which each lies in space, and how many ways there are from each die on to end a tower that lacks some numbers.
type pile struct {
	dice  []impl.Die
	ways  [][]impl.Die
	whole lack
	known []map[lack]int
}

func pileOf(dice []impl.Die) *pile {
	p := &pile{dice: dice}
	for _, d := range dice {
		p.ways = append(p.ways, waysInSpace(d))
		p.known = append(p.known, map[lack]int{})
	}
	for i := range p.whole {
		for number := range dice {
			p.whole[i] += 2 << number
		}
	}
	return p
}

func (p *pile) countFrom(i int, l lack) int {
	if i == len(p.ways) {
		return 1
	}
	if count, is := p.known[i][l]; is {
		return count
	}
	count := 0
	for _, way := range p.ways[i] {
		if left, fits := l.behind(way); fits {
			count += p.countFrom(i+1, left)
		}
	}
	p.known[i][l] = count
	return count
}

func (p *pile) count() int {
	return p.countFrom(0, p.whole)
}

// first returns the first full tower, each die in the first way that leaves one.
func (p *pile) first() []impl.Die {
	var tower []impl.Die
	l := p.whole
	for i, ways := range p.ways {
		for _, way := range ways {
			if left, fits := l.behind(way); fits && p.countFrom(i+1, left) > 0 {
				tower = append(tower, way)
				l = left
				break
			}
		}
	}
	return tower
}

// pairOf returns one of the three pairs of a die, the lesser number first.
func pairOf(d impl.Die, index int) []int {
	faces := facesOf(d)
	pair := [][]int{{faces[1], faces[3]}, {faces[2], faces[4]}, {faces[0], faces[5]}}[index]
	return []int{min(pair[0], pair[1]), max(pair[0], pair[1])}
}

// loops returns all loops of the dice, told by all numbers of n digits to the base of three.
func (p *pile) loops() [][]int {
	all := 1
	for range p.dice {
		all *= 3
	}
	var loops [][]int
	for number := range all {
		indices := make([]int, len(p.dice))
		var found []int
		for i := len(p.dice) - 1; i >= 0; i-- {
			indices[i] = number % 3
			number /= 3
			found = append(found, pairOf(p.dice[i], indices[i])...)
		}
		slices.Sort(found)
		if slices.Equal(found, []int{1, 1, 2, 2, 3, 3, 4, 4}[:2*len(p.dice)]) {
			loops = append(loops, indices)
		}
	}
	return loops
}

// hasTwoApart reports whether two of some loops have no index of one die both.
func hasTwoApart(loops [][]int) bool {
	for _, loop := range loops {
		for _, other := range loops {
			shared := 0
			for i := range loop {
				if loop[i] == other[i] {
					shared++
				}
			}
			if shared == 0 {
				return true
			}
		}
	}
	return false
}

// drawn returns n lists of as many dice as told, with numbers up to a greatest one, drawn by a fixed rule.
func drawn(n int, height int, least int, greatest int) [][]impl.Die {
	var all [][]impl.Die
	seed := uint32(height*100 + greatest*10 + least)
	for range n {
		var dice []impl.Die
		for range height {
			faces := make([]int, 6)
			for place := range faces {
				seed = seed*1664525 + 1013904223
				faces[place] = least + int(seed>>16)%(greatest-least+1)
			}
			dice = append(dice, dieOf(faces))
		}
		all = append(all, dice)
	}
	return all
}

// diceFrom returns the dice with some texts, parted by spaces.
func diceFrom(texts string) []impl.Die {
	var dice []impl.Die
	for _, text := range strings.Fields(texts) {
		dice = append(dice, die(text))
	}
	return dice
}

// oneTower returns dice of which all full towers look the same: on each side they have one number alone.
func oneTower(n int) []impl.Die {
	return diceFrom("011110 922229 533335 044440")[:n]
}

// samePiles returns lists of dice that look the same in several ways, and lists of one die several times.
func samePiles() [][]impl.Die {
	all := [][]impl.Die{
		diceFrom("000000"), diceFrom("111111"), diceFrom("999999"), diceFrom("111111 111111"), diceFrom("111111 222222"), diceFrom("112211 221122"), diceFrom("121212 212121"), diceFrom("111122 222211"),
		diceFrom("111111 222222 333333"), diceFrom("222222 333333 111111"), diceFrom("111111 222222 444444"), diceFrom("111111 222222 333333 444444"), diceFrom("444444 222222 333333 111111"), diceFrom("111111 222222 333333 000000"),
		diceFrom("112233 112233 112233"), diceFrom("111222 222333 333111"), diceFrom("112233 223344 334411 441122"), diceFrom("121212 121212 343434 343434"), diceFrom("131422 131422 131422 131422"), diceFrom("342114 342114 342114 342114"),
	}
	for n := 1; n <= 4; n++ {
		all = append(all, oneTower(n))
		for _, d := range diceFrom("123456 123412 121212 112345 012340 900001") {
			all = append(all, slices.Repeat([]impl.Die{d}, n))
		}
	}
	return all
}

// piles returns lists of dice with and without full towers.
var piles = sync.OnceValue(func() []*pile {
	all := samePiles()
	for _, d := range slices.Concat(diceUpTo(3), sampleDice(), equalFaced(), differentDice()) {
		all = append(all, []impl.Die{d})
	}
	small := slices.Concat(allColorings().listed[3], diceFrom("123456 012345 111199 129129 221133"))
	for _, d := range small {
		for _, e := range small {
			all = append(all, []impl.Die{d, e})
		}
	}
	for height := 1; height <= 4; height++ {
		all = slices.Concat(all, drawn(40, height, 1, height), drawn(40, height, 0, height), drawn(20, height, 1, height+1), drawn(5, height, 0, 9))
	}
	var told []*pile
	for _, dice := range all {
		told = append(told, pileOf(dice))
	}
	return told
})

// wrongTowers returns lists that are none of one to four dice.
var wrongTowers = sync.OnceValue(func() [][]impl.Die {
	five := diceFrom("011110 022220 033330 044440 055550")
	wrong := [][]impl.Die{nil, {}, five, slices.Repeat(five, 2), slices.Repeat(five[:1], 5), slices.Repeat(five[:4], 2), slices.Repeat(five, 1000), {{Top: -1}, {}, {}, {}, {}}}
	for n := 1; n <= 4; n++ {
		for place := range n {
			for _, d := range wrongDice() {
				dice := oneTower(n)
				dice[place] = d
				wrong = append(wrong, dice)
			}
		}
		wrong = append(wrong, slices.Repeat([]impl.Die{{Top: 1, North: 10, East: 10, South: 10, West: 10}}, n))
	}
	return wrong
})

// expectRows checks that a call succeeded with a list of lists.
func expectRows(t *testing.T, what string, got [][]int, ok bool, want [][]int) {
	t.Helper()
	if !ok || !slices.EqualFunc(got, want, slices.Equal) {
		t.Errorf("%s: got %v, %v, want %v", what, got, ok, want)
	}
}
