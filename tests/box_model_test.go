package tests

import (
	"math"
	"math/rand"
	"slices"
	"strings"
	"sync"
	"testing"

	"loop.example/g01207/impl"
)

// The tests of boxes hold the program against two cubes in space that turn around an edge on the ground, whose signs
// are read one by one. What words take is told backwards, from their goals, and on small grounds by trying all words.

// cubes has the middles of the two cubes of a box, in halves of an edge; the axes are east, north and up, as for dice.
type cubes [2]vector

var towards = map[byte]vector{'n': north, 'e': east, 's': south, 'w': west}

// backDirections tells for each direction the one that rolls back.
var backDirections = map[string]string{"n": "s", "e": "w", "s": "n", "w": "e"}

// along returns how far a vector goes in the direction of another one.
func (v vector) along(direction vector) int {
	return v[0]*direction[0] + v[1]*direction[1] + v[2]*direction[2]
}

func (v vector) plus(step vector, times int) vector {
	return vector{v[0] + times*step[0], v[1] + times*step[1], v[2] + times*step[2]}
}

// cubesOf returns the cubes of a box whose pose is one, the first one on the cell X, Y.
func cubesOf(x impl.Box) cubes {
	first := vector{2*x.X + 1, -2*x.Y - 1, 1}
	return cubes{first, first.plus([]vector{up, east, south}[x.Pose], 2)}
}

// tipped returns the cubes turned by a quarter around the edge on the ground that is farthest in a direction.
func (c cubes) tipped(dir byte) cubes {
	side := towards[dir]
	edge := max(c[0].along(side), c[1].along(side)) + 1
	for i := range c {
		c[i] = rollMatrices[dir].moved(c[i].plus(side, -edge)).plus(side, edge)
	}
	return c
}

// places returns the cells under both cubes, one of them twice if the box stands.
func (c cubes) places() [2]place {
	var under [2]place
	for i, cube := range c {
		under[i] = place{(cube[0] - 1) / 2, (-cube[1] - 1) / 2}
	}
	return under
}

// boxOver returns the box over two cells that are neighbours, or over one.
func boxOver(under [2]place) impl.Box {
	first := place{min(under[0].x, under[1].x), min(under[0].y, under[1].y)}
	switch {
	case under[0].x != under[1].x:
		return impl.Box{X: first.x, Y: first.y, Pose: impl.PoseEast}
	case under[0].y != under[1].y:
		return impl.Box{X: first.x, Y: first.y, Pose: impl.PoseSouth}
	}
	return impl.Box{X: first.x, Y: first.y, Pose: impl.PoseUp}
}

// land has the signs of the cells of a ground, all boxes on it in the order of Y, X and Pose,
// and how many rolls lead from one to another: away[to][from], -1 where no word does.
type land struct {
	text  string
	signs map[place]byte
	boxes []impl.Box
	next  [][4]int
	away  [][]int
}

func landOf(b string) *land {
	l := &land{text: b, signs: map[place]byte{}}
	for y, row := range strings.Split(b, "/") {
		for x := range len(row) {
			l.signs[place{x, y}] = row[x]
		}
	}
	index := map[impl.Box]int{}
	for _, at := range planOf(b).places() {
		for pose := range 3 {
			if x := (impl.Box{X: at.x, Y: at.y, Pose: pose}); l.has(x) {
				index[x] = len(l.boxes)
				l.boxes = append(l.boxes, x)
			}
		}
	}
	for _, x := range l.boxes {
		next := [4]int{-1, -1, -1, -1}
		for k := range order {
			if way := l.tips(x, order[k:k+1]); len(way) == 2 {
				next[k] = index[way[1]]
			}
		}
		l.next = append(l.next, next)
	}
	for goal := range l.boxes {
		l.away = append(l.away, l.awayFrom(goal))
	}
	return l
}

// has reports whether x, whose numbers may be any, is a box on the ground.
func (l *land) has(x impl.Box) bool {
	if _, inside := l.signs[place{x.X, x.Y}]; !inside || x.Pose < 0 || x.Pose > 2 {
		return false
	}
	under := cubesOf(x).places()
	for _, at := range under {
		if sign, inside := l.signs[at]; !inside || sign == '#' {
			return false
		}
	}
	return under[0] != under[1] || l.signs[under[0]] != '-'
}

// tips returns the boxes before and behind each roll of a word, until one cannot be made.
func (l *land) tips(x impl.Box, word string) []impl.Box {
	way := []impl.Box{x}
	for i := range len(word) {
		x = boxOver(cubesOf(x).tipped(word[i]).places())
		if !l.has(x) {
			break
		}
		way = append(way, x)
	}
	return way
}

// ways returns the directions in which a box can be rolled.
func (l *land) ways(x impl.Box) string {
	ways := ""
	for k := range order {
		if len(l.tips(x, order[k:k+1])) == 2 {
			ways += order[k : k+1]
		}
	}
	return ways
}

// longTips returns a word of n directions, without a plain pattern, whose rolls can all be made. There has to be one.
func (l *land) longTips(x impl.Box, n int) string {
	word := ""
	for i := 0; len(word) < n; i++ {
		ways := l.ways(x)
		k := (i*i + i/3) % len(ways)
		x = l.tips(x, ways[k:k+1])[1]
		word += ways[k : k+1]
	}
	return word
}

// awayFrom returns how many rolls lead from each box to a goal, made less from box to box until nothing changes.
func (l *land) awayFrom(goal int) []int {
	away := slices.Repeat([]int{-1}, len(l.boxes))
	away[goal] = 0
	for changed := true; changed; {
		changed = false
		for i := range away {
			for _, to := range l.next[i] {
				if to >= 0 && away[to] >= 0 && (away[i] < 0 || away[to]+1 < away[i]) {
					away[i] = away[to] + 1
					changed = true
				}
			}
		}
	}
	return away
}

// word returns the first one of the shortest words from a box to another one that it reaches.
func (l *land) word(from int, to int) string {
	word := ""
	for at := from; at != to; {
		for k, next := range l.next[at] {
			if next >= 0 && l.away[to][next] == l.away[to][at]-1 {
				word += order[k : k+1]
				at = next
				break
			}
		}
	}
	return word
}

// isForked reports whether several words are the shortest ones between two boxes: at some box on the way two rolls are as good.
func (l *land) isForked(from int, to int) bool {
	for at := from; at != to; {
		var good []int
		for _, next := range l.next[at] {
			if next >= 0 && l.away[to][next] == l.away[to][at]-1 {
				good = append(good, next)
			}
		}
		if len(good) > 1 {
			return true
		}
		at = good[0]
	}
	return false
}

// reached returns the indices of the boxes that a box reaches, in order.
func (l *land) reached(from int) []int {
	var reached []int
	for to := range l.boxes {
		if l.away[to][from] >= 0 {
			reached = append(reached, to)
		}
	}
	return reached
}

// listed returns the boxes with some indices.
func (l *land) listed(indices []int) []impl.Box {
	boxes := make([]impl.Box, len(indices))
	for i, index := range indices {
		boxes[i] = l.boxes[index]
	}
	return boxes
}

// farthest returns the boxes that are most rolls away from one, in order, and how many these are.
func (l *land) farthest(from int) ([]impl.Box, int) {
	most := 0
	for _, away := range l.away {
		most = max(most, away[from])
	}
	var farthest []impl.Box
	for to, away := range l.away {
		if away[from] == most {
			farthest = append(farthest, l.boxes[to])
		}
	}
	return farthest, most
}

// upCells returns the numbers of the cells on which a box that is reached stands.
func (l *land) upCells(from int) []int {
	var cells []int
	for i, at := range planOf(l.text).places() {
		for _, to := range l.reached(from) {
			if cubesOf(l.boxes[to]).places() == [2]place{at, at} {
				cells = append(cells, i)
			}
		}
	}
	return cells
}

// holeBox returns the index of the box that stands on the hole, if there is a hole.
func (l *land) holeBox() (int, bool) {
	for i, x := range l.boxes {
		if under := cubesOf(x).places(); under[0] == under[1] && l.signs[under[0]] == 'o' {
			return i, true
		}
	}
	return 0, false
}

// starts returns indices of boxes: all if they are few, and else some, the first and the last one with them.
func (l *land) starts() []int {
	var starts []int
	for i := range l.boxes {
		if len(l.boxes) <= 40 || i%11 == 0 || i == len(l.boxes)-1 {
			starts = append(starts, i)
		}
	}
	return starts
}

// off returns what is no box on the ground: boxes over a side, on nothing, standing on weak floor, with other poses, and far away.
func (l *land) off() []impl.Box {
	columns, rows := planOf(l.text).columns(), planOf(l.text).rows()
	var off []impl.Box
	for y := -2; y <= rows+1; y++ {
		for x := -2; x <= columns+1; x++ {
			for pose := -1; pose <= 3; pose++ {
				if box := (impl.Box{X: x, Y: y, Pose: pose}); !l.has(box) {
					off = append(off, box)
				}
			}
		}
	}
	return append(off, strangeBoxes()...)
}

// strangeBoxes returns what is no box on any ground: numbers far away, some of which would come back if they were counted with fewer bits, and poses that are none.
func strangeBoxes() []impl.Box {
	var boxes []impl.Box
	for _, far := range []int{math.MinInt, math.MinInt + 1, math.MinInt32, -256, -1, 7, 255, 256, 1 << 32, 1 << 62, -1 << 62, math.MaxInt - 1, math.MaxInt} {
		for pose := range 3 {
			boxes = append(boxes, impl.Box{X: far, Pose: pose}, impl.Box{Y: far, Pose: pose}, impl.Box{X: far, Y: far, Pose: pose})
		}
		if far != -1 {
			boxes = append(boxes, impl.Box{Pose: far}, impl.Box{X: 1, Y: 1, Pose: far})
		}
	}
	return append(boxes, impl.Box{Pose: -1}, impl.Box{Pose: 3}, impl.Box{Pose: 4}, impl.Box{Pose: 'e'})
}

// farLand has boxes that are more than MaxRolls rolls away from each other, farHole a hole that is just MaxRolls rolls away.
const farLand = "-...-#/---..-/.-#-../.-##-./.----./-...--"

const farHole = "#...-./-..---/o.##-./.-##.-/.---../--...-"

// sampleGrounds returns grounds of one cell and of few cells, with and without a hole, weak floor and nothing, and at the limits of rows, columns and cells.
func sampleGrounds() []string {
	grounds := strings.Fields(`. # - o .. .- -. -- .o o. -o o- .# #. ... ..o .o. o.. .-. --- -.- .#. .-o -o- ....o ...o .--.o ...#... ......o o...... -.-.-.- .-.-.-. ....-..
		./. ./- o/. -/- ././. ././o ./o/. -/./. ./././o ././././o ./#/. ../.. .-/-. --/-- o./.. ##/## .../... .../.#. .o./... --./.-. ../../o. .../.../... .../.#./... ---/-.-/--- .../.-./..o
		..../..../..../.... ..../.##./..../.... .--./-..-/-..-/.--. ..#/.../#.. ...#/..../o.../#... ...../.-.-./...../.-o-./..... -.../..#./.#../...o ####/#..#/####`)
	return append(grounds,
		floorBoard(1, 7), floorBoard(7, 1), floorBoard(6, 6), floorBoard(7, 5), floorBoard(5, 7), farLand, farHole,
		strings.ReplaceAll(floorBoard(6, 6), ".", "-"), strings.ReplaceAll(floorBoard(7, 5), ".", "#"), floorBoard(7, 4)+"/......o", "o....../"+floorBoard(7, 4),
		"...####/....###/......./#....../###....", "..#..#/#.#..#/....../.####./.#..#./.#.o#.")
}

// mixedGrounds returns grounds of different sizes with floor, weak floor and nothing without a plain pattern, half of them with a hole.
func mixedGrounds() []string {
	random := rand.New(rand.NewSource(6))
	var grounds []string
	for i := range 24 {
		columns := 3 + random.Intn(5)
		rows := min(3+random.Intn(5), 36/columns)
		signs := []byte(floorBoard(columns, rows))
		for k := range signs {
			if signs[k] == '.' {
				signs[k] = ".......--#"[random.Intn(10)]
			}
		}
		if i%2 == 0 {
			signs[random.Intn(rows)*(columns+1)+random.Intn(columns)] = 'o'
		}
		grounds = append(grounds, string(signs))
	}
	return grounds
}

// smallGrounds returns all grounds of at most so many columns and rows.
func smallGrounds(columns int, rows int) []string {
	grounds := []string{floorBoard(columns, rows)}
	for i := range grounds[0] {
		if grounds[0][i] == '/' {
			continue
		}
		for _, b := range grounds {
			for _, sign := range "#-o" {
				if sign != 'o' || !strings.Contains(b, "o") {
					grounds = append(grounds, b[:i]+string(sign)+b[i+1:])
				}
			}
		}
	}
	return grounds
}

var lands = sync.OnceValue(func() []*land {
	var all []*land
	for _, b := range append(sampleGrounds(), mixedGrounds()...) {
		all = append(all, landOf(b))
	}
	return all
})

var smallLands = sync.OnceValue(func() []*land {
	var all []*land
	for _, size := range []place{{1, 1}, {2, 1}, {3, 1}, {4, 1}, {5, 1}, {1, 4}, {2, 2}, {3, 2}, {2, 3}} {
		for _, b := range smallGrounds(size.x, size.y) {
			all = append(all, landOf(b))
		}
	}
	return all
})

// wrongGrounds returns texts that are no grounds: what is no board either, other signs, and two holes or more.
func wrongGrounds() []string {
	texts := slices.DeleteFunc(wrongBoards(), func(b string) bool { return b == "-" || b == "o" })
	texts = append(texts, strings.Fields("oo o.o o/o .o/o. o./.o ooo ..o/.../o.. -o-o o#o O 0 _ + * = ~ ' .-, .:. ..O -/-- --/- o/ /o //o .o// o//. ./o/ -x- .o1 …")...)
	for _, b := range []string{"-", "o"} {
		for _, size := range []place{{8, 1}, {1, 8}, {7, 6}, {6, 7}, {7, 7}, {9, 4}, {4, 9}} {
			texts = append(texts, strings.Replace(floorBoard(size.x, size.y), ".", b, 1))
		}
	}
	return append(texts, floorBoard(6, 6)+"/o", "o"+floorBoard(6, 6), "o"+floorBoard(6, 5)+"o", strings.ReplaceAll(floorBoard(6, 6), ".", "o"), strings.Repeat("-", 5000), strings.Repeat("o", 5000), "-\n", "\no", "o\x00", "-\xff")
}

// tipCase is a word for a box on a ground, with the boxes before and behind each of its rolls until one cannot be made.
type tipCase struct {
	ground string
	start  impl.Box
	word   string
	way    []impl.Box
}

func (c tipCase) isWhole() bool {
	return len(c.way) == len(c.word)+1
}

// tipCases returns words for boxes on the grounds: all short ones, the empty one with them, and long ones, up to MaxRolls, whose rolls can be made or that stop early or late.
var tipCases = sync.OnceValue(func() []tipCase {
	var cases []tipCase
	for _, l := range lands() {
		for _, i := range l.starts() {
			x := l.boxes[i]
			words := append(allWords(3), longestWords()...)
			if l.ways(x) != "" {
				long := l.longTips(x, 60)
				words = append(words, long, long[:59], long[:59]+"n", long[:59]+"e", long[:59]+"s", long[:59]+"w", long[:7], long[:30]+long[:30])
			}
			for _, word := range words {
				cases = append(cases, tipCase{l.text, x, word, l.tips(x, word)})
			}
		}
	}
	return cases
})

// wrongTips returns grounds, boxes and words of which one is invalid; the other two would do for a way.
var wrongTips = sync.OnceValue(func() []tipCase {
	var cases []tipCase
	for _, b := range wrongGrounds() {
		for _, word := range []string{"", "n", "e", "s", "w"} {
			for _, x := range []impl.Box{{}, {Pose: impl.PoseEast}, {Pose: impl.PoseSouth}, {X: 1, Y: 1}} {
				cases = append(cases, tipCase{ground: b, start: x, word: word})
			}
		}
	}
	for i, l := range lands() {
		for k, x := range l.off() {
			if (i+k)%3 == 0 {
				cases = append(cases, tipCase{ground: l.text, start: x}, tipCase{ground: l.text, start: x, word: order[k%4 : k%4+1]})
			}
		}
		for k := i % 7; k < len(l.boxes); k += 7 {
			x := l.boxes[k]
			words := wrongWords()
			if l.ways(x) != "" {
				long := l.longTips(x, 61)
				words = append(words, long, long[:5]+"x", long[:1]+" ", long[:1]+"N")
			}
			for _, word := range words {
				cases = append(cases, tipCase{ground: l.text, start: x, word: word})
			}
		}
	}
	return cases
})

// endedTip is a word all of whose rolls can be made, with its last box.
type endedTip struct {
	word string
	end  impl.Box
}

// tipsFrom returns all words of at most n rolls that can be made, shorter ones first, those of one length in order.
func (l *land) tipsFrom(x impl.Box, n int) []endedTip {
	words := []endedTip{{end: x}}
	for i := 0; i < len(words) && len(words[i].word) < n; i++ {
		for k := range order {
			if way := l.tips(words[i].end, order[k:k+1]); len(way) == 2 {
				words = append(words, endedTip{words[i].word + order[k:k+1], way[1]})
			}
		}
	}
	return words
}

// turnedBox returns the box over the cells of a box that are turned by a quarter clockwise with a ground of so many rows.
func turnedBox(x impl.Box, rows int) impl.Box {
	under := cubesOf(x).places()
	for i, at := range under {
		under[i] = place{rows - 1 - at.y, at.x}
	}
	return boxOver(under)
}

// turnedGround returns the text of a ground turned by a quarter clockwise.
func (l *land) turnedGround() string {
	columns, rows := planOf(l.text).columns(), planOf(l.text).rows()
	turned := make([]string, columns)
	for x := range turned {
		for y := rows - 1; y >= 0; y-- {
			turned[x] += string(l.signs[place{x, y}])
		}
	}
	return strings.Join(turned, "/")
}

// inBoxOrder orders boxes by Y, then X, then Pose.
func inBoxOrder(x, y impl.Box) int {
	return slices.Compare([]int{x.Y, x.X, x.Pose}, []int{y.Y, y.X, y.Pose})
}

// expectSuccess checks that a call succeeded with a value.
func expectSuccess[T comparable](t *testing.T, what string, got T, ok bool, want T) {
	t.Helper()
	if !ok || got != want {
		t.Errorf("%s: got %v, %v, want %v", what, got, ok, want)
	}
}
