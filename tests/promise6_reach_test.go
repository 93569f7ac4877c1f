package tests

import (
	"fmt"
	"slices"
	"strings"
	"testing"

	"loop.example/g01207/impl"
)

func TestPromise6BoxesReached(t *testing.T) {
	for _, c := range []struct {
		ground string
		x      impl.Box
		want   []impl.Box
	}{
		{".", impl.Box{}, []impl.Box{{}}}, {"..", impl.Box{X: 1}, []impl.Box{{X: 1}}}, {"--", impl.Box{Pose: impl.PoseEast}, []impl.Box{{Pose: impl.PoseEast}}},
		{"....o", impl.Box{X: 3}, []impl.Box{{}, {X: 1, Pose: impl.PoseEast}, {X: 3}}},
		{"...", impl.Box{X: 1}, []impl.Box{{X: 1}}},
		{".-./.-./.#.", impl.Box{}, []impl.Box{{}, {X: 1, Pose: impl.PoseEast}, {Y: 1}, {Y: 1, Pose: impl.PoseSouth}, {X: 1, Y: 1, Pose: impl.PoseEast}}},
		{".--/---", impl.Box{X: 1, Pose: impl.PoseEast}, []impl.Box{{}, {X: 1, Pose: impl.PoseEast}, {Y: 1, X: 1, Pose: impl.PoseEast}}},
		{"../../..", impl.Box{Pose: impl.PoseSouth}, []impl.Box{{Pose: impl.PoseSouth}, {X: 1, Pose: impl.PoseSouth}, {Y: 2}, {X: 1, Y: 2}}},
	} {
		got, ok := impl.BoxesReached(c.ground, c.x)
		expectList(t, fmt.Sprint("BoxesReached ", c.ground, c.x), got, ok, c.want)
	}
	// Three poses on one cell, and cells of one row and of several.
	got, ok := impl.BoxesReached("..../..../....", impl.Box{X: 1, Y: 1, Pose: impl.PoseEast})
	expectEqual(t, "BoxesReached succeeds", ok, true)
	expectEqual(t, "BoxesReached in the order of Y, then X, then Pose", slices.IsSortedFunc(got, inBoxOrder), true)
	expectEqual(t, "poses on one cell", slices.Contains(got, impl.Box{}) && slices.Contains(got, impl.Box{Pose: impl.PoseEast}) && slices.Contains(got, impl.Box{Pose: impl.PoseSouth}), true)
	for _, l := range append(lands(), smallLands()...) {
		for _, i := range l.starts() {
			got, ok := impl.BoxesReached(l.text, l.boxes[i])
			expectList(t, fmt.Sprint("BoxesReached ", l.text, l.boxes[i]), got, ok, l.listed(l.reached(i)))
		}
	}
}

func TestPromise6CountBoxes(t *testing.T) {
	for b, want := range map[string]int{".": 1, "..": 1, "...": 2, "....": 3, ".#.": 1, ".--.": 3, floorBoard(6, 6): 96, floorBoard(7, 1): 5, "../..": 1, "../../..": 4} {
		got, ok := impl.CountBoxes(b, impl.Box{})
		expectSuccess(t, "CountBoxes "+b, got, ok, want)
	}
	for _, l := range append(lands(), smallLands()...) {
		for _, i := range l.starts() {
			got, ok := impl.CountBoxes(l.text, l.boxes[i])
			expectSuccess(t, fmt.Sprint("CountBoxes ", l.text, l.boxes[i]), got, ok, len(l.reached(i)))
		}
	}
}

func TestPromise6WordToBox(t *testing.T) {
	forked := 0
	for _, l := range append(lands(), smallLands()...) {
		for _, from := range l.starts() {
			for _, to := range l.reached(from) {
				what := fmt.Sprint("WordToBox ", l.text, l.boxes[from], l.boxes[to])
				want := l.word(from, to)
				got, ok := impl.WordToBox(l.text, l.boxes[from], l.boxes[to])
				if len(want) > 60 {
					expectFailure(t, what, got, ok)
					continue
				}
				expectSuccess(t, what, got, ok, want)
				behind, ok := impl.RollBoxAlong(l.text, l.boxes[from], got)
				expectSuccess(t, "the box behind "+what, behind, ok, l.boxes[to])
				if l.isForked(from, to) {
					forked++
				}
			}
		}
	}
	expectEqual(t, "boxes with several shortest words are tried", forked > 1000, true)
}

func TestPromise6WordToBoxItself(t *testing.T) {
	for _, l := range append(lands(), smallLands()...) {
		for _, x := range l.boxes {
			got, ok := impl.WordToBox(l.text, x, x)
			expectSuccess(t, fmt.Sprint("WordToBox itself ", l.text, x), got, ok, "")
		}
	}
}

// Of several shortest words, all of which are told here, the first one in the order of the directions is returned, not that of the letters or of a search from the other end.
func TestPromise6WordToBoxOfSeveral(t *testing.T) {
	for _, c := range []struct {
		from, to impl.Box
		words    string
	}{
		{impl.Box{X: 2, Y: 1}, impl.Box{X: 1, Pose: impl.PoseSouth}, "eswnw wsenw"},
		{impl.Box{X: 3, Y: 2}, impl.Box{X: 2, Y: 1, Pose: impl.PoseEast}, "neswn senwn"},
		{impl.Box{X: 3, Y: 2, Pose: impl.PoseSouth}, impl.Box{X: 2, Y: 2}, "wnesw wnwse"},
		{impl.Box{X: 4, Y: 3}, impl.Box{Y: 3}, "nwsww wwnws"},
		{impl.Box{X: 2}, impl.Box{Y: 3, Pose: impl.PoseSouth}, "esswsww seswnws wssesww"},
		{impl.Box{X: 2, Y: 1, Pose: impl.PoseSouth}, impl.Box{X: 1, Y: 2, Pose: impl.PoseSouth}, "neswsw nwsesw seswnw swsenw wnesws wseswn"},
	} {
		words := strings.Fields(c.words)
		got, ok := impl.WordToBox(floorBoard(5, 5), c.from, c.to)
		expectSuccess(t, fmt.Sprint("WordToBox ", c), got, ok, words[0])
		for _, word := range words {
			behind, ok := impl.RollBoxAlong(floorBoard(5, 5), c.from, word)
			expectSuccess(t, "the box behind "+word, behind, ok, c.to)
		}
	}
}

func TestPromise6WordToBoxesThatAreNotReached(t *testing.T) {
	count := 0
	for _, l := range append(lands(), smallLands()...) {
		for _, from := range l.starts() {
			for to, x := range l.boxes {
				if l.away[to][from] < 0 {
					got, ok := impl.WordToBox(l.text, l.boxes[from], x)
					expectFailure(t, fmt.Sprint("WordToBox ", l.text, l.boxes[from], x), got, ok)
					count++
				}
			}
		}
	}
	expectEqual(t, "boxes that are not reached are tried", count > 1000, true)
}

func TestPromise6WordToBoxesThatAreNone(t *testing.T) {
	for _, l := range lands() {
		for i := 0; i < len(l.boxes); i += 13 {
			for _, x := range l.off() {
				got, ok := impl.WordToBox(l.text, l.boxes[i], x)
				expectFailure(t, fmt.Sprint("WordToBox to ", l.text, l.boxes[i], x), got, ok)
				got, ok = impl.WordToBox(l.text, x, l.boxes[i])
				expectFailure(t, fmt.Sprint("WordToBox from ", l.text, l.boxes[i], x), got, ok)
			}
		}
	}
}

func TestPromise6WordToHole(t *testing.T) {
	for _, c := range []struct {
		ground string
		x      impl.Box
		want   string
		ok     bool
	}{
		{"...o", impl.Box{}, "ee", true}, {"o...", impl.Box{X: 3}, "ww", true}, {"./././o", impl.Box{}, "ss", true}, {"...o", impl.Box{X: 1, Pose: impl.PoseEast}, "e", true}, {"o--", impl.Box{X: 1, Pose: impl.PoseEast}, "w", true},
		{"o", impl.Box{}, "", true}, {"#o#", impl.Box{X: 1}, "", true}, {"...o", impl.Box{X: 3}, "", true},
		{"....", impl.Box{}, "", false}, {".", impl.Box{}, "", false}, {"--", impl.Box{Pose: impl.PoseEast}, "", false},
		// Here the box can only lie on the hole, or not come to it at all.
		{".o", impl.Box{Pose: impl.PoseEast}, "", false}, {"..o", impl.Box{}, "", false}, {"..o.", impl.Box{X: 3}, "", false}, {"....o", impl.Box{}, "", false}, {".-o-", impl.Box{X: 1, Pose: impl.PoseEast}, "", false}, {"...#o", impl.Box{}, "", false}, {"-o-/-.-", impl.Box{X: 1, Pose: impl.PoseSouth}, "", false},
	} {
		got, ok := impl.WordToHole(c.ground, c.x)
		expectEqual(t, fmt.Sprint("WordToHole ", c.ground, c.x), got, c.want)
		expectEqual(t, fmt.Sprint("WordToHole succeeds ", c.ground, c.x), ok, c.ok)
	}
	reached, missed := 0, 0
	for _, l := range append(lands(), smallLands()...) {
		to, hasHole := l.holeBox()
		for _, from := range l.starts() {
			what := fmt.Sprint("WordToHole ", l.text, l.boxes[from])
			got, ok := impl.WordToHole(l.text, l.boxes[from])
			if !hasHole || l.away[to][from] < 0 || l.away[to][from] > 60 {
				expectFailure(t, what, got, ok)
				missed++
				continue
			}
			expectSuccess(t, what, got, ok, l.word(from, to))
			behind, ok := impl.RollBoxAlong(l.text, l.boxes[from], got)
			expectSuccess(t, "the box behind "+what, behind, ok, l.boxes[to])
			reached++
		}
	}
	expectEqual(t, "holes that are reached and such that are not are tried", reached > 1000 && missed > 1000, true)
}

// Words of just MaxRolls rolls are told, longer ones are not, though their boxes are reached.
func TestPromise6WordsOfMaxRolls(t *testing.T) {
	l := landOf(farLand)
	count := map[int]int{}
	for from := range l.boxes {
		for _, to := range l.reached(from) {
			rolls := l.away[to][from]
			if rolls < 59 {
				continue
			}
			count[rolls]++
			what := fmt.Sprint("WordToBox of ", rolls, l.boxes[from], l.boxes[to])
			got, ok := impl.WordToBox(farLand, l.boxes[from], l.boxes[to])
			if rolls > 60 {
				expectFailure(t, what, got, ok)
				continue
			}
			expectSuccess(t, what, got, ok, l.word(from, to))
		}
	}
	expectEqual(t, "words of 59, 60, 61 and 62 rolls are tried", count[59] > 0 && count[60] > 0 && count[61] > 0 && count[62] > 0, true)
	got, ok := impl.WordToHole(farHole, impl.Box{X: 1, Y: 1, Pose: impl.PoseEast})
	expectEqual(t, "WordToHole of sixty rolls", len(got), 60)
	behind, _ := impl.RollBoxAlong(farHole, impl.Box{X: 1, Y: 1, Pose: impl.PoseEast}, got)
	expectSuccess(t, "the box behind sixty rolls", behind, ok, impl.Box{Y: 2})
}

func TestPromise6FarthestBox(t *testing.T) {
	for _, c := range []struct {
		ground string
		x      impl.Box
		want   farBox
	}{
		{".", impl.Box{}, farBox{impl.Box{}, 0}}, {"..", impl.Box{X: 1}, farBox{impl.Box{X: 1}, 0}}, {"....o", impl.Box{}, farBox{impl.Box{X: 3}, 2}}, {"....", impl.Box{X: 3}, farBox{impl.Box{}, 2}},
		// Both ends are one roll away: the first one in order is told, whatever the order of the directions.
		{"....", impl.Box{X: 1, Pose: impl.PoseEast}, farBox{impl.Box{}, 1}}, {"./././.", impl.Box{Y: 1, Pose: impl.PoseSouth}, farBox{impl.Box{}, 1}}, {"-../.../-..", impl.Box{X: 1, Y: 1, Pose: impl.PoseEast}, farBox{impl.Box{X: 1, Pose: impl.PoseEast}, 1}},
		{farLand, impl.Box{X: 1, Y: 2, Pose: impl.PoseSouth}, farBox{impl.Box{X: 2, Y: 4, Pose: impl.PoseEast}, 62}},
	} {
		got, ok := farthestBox(c.ground, c.x)
		expectSuccess(t, fmt.Sprint("FarthestBox ", c.ground, c.x), got, ok, c.want)
	}
	several := 0
	for _, l := range append(lands(), smallLands()...) {
		for _, from := range l.starts() {
			farthest, rolls := l.farthest(from)
			got, ok := farthestBox(l.text, l.boxes[from])
			expectSuccess(t, fmt.Sprint("FarthestBox ", l.text, l.boxes[from]), got, ok, farBox{farthest[0], rolls})
			if len(farthest) > 1 {
				several++
			}
		}
	}
	expectEqual(t, "several farthest boxes are tried", several > 100, true)
}

func TestPromise6UpCells(t *testing.T) {
	for _, c := range []struct {
		ground string
		x      impl.Box
		want   []int
	}{
		{".", impl.Box{}, []int{0}}, {"o", impl.Box{}, []int{0}}, {"..", impl.Box{X: 1}, []int{1}}, {"....o", impl.Box{}, []int{0, 3}}, {"...o", impl.Box{X: 1, Pose: impl.PoseEast}, []int{0, 3}},
		{"./././.", impl.Box{Y: 3}, []int{0, 3}}, {"../../..", impl.Box{Y: 1, Pose: impl.PoseSouth}, []int{0, 1}}, {"--", impl.Box{Pose: impl.PoseEast}, nil}, {"--/--", impl.Box{X: 1, Pose: impl.PoseSouth}, nil}, {"..", impl.Box{Pose: impl.PoseEast}, nil},
		{"--/--/..", impl.Box{Pose: impl.PoseSouth}, []int{4, 5}},
	} {
		got, ok := impl.UpCells(c.ground, c.x)
		expectList(t, fmt.Sprint("UpCells ", c.ground, c.x), got, ok, c.want)
	}
	for _, l := range append(lands(), smallLands()...) {
		for _, from := range l.starts() {
			got, ok := impl.UpCells(l.text, l.boxes[from])
			expectList(t, fmt.Sprint("UpCells ", l.text, l.boxes[from]), got, ok, l.upCells(from))
		}
	}
	got, ok := impl.UpCells(floorBoard(6, 6), impl.Box{})
	expectEqual(t, "UpCells of floor", len(got), 36)
	expectEqual(t, "UpCells succeeds", ok && slices.IsSorted(got) && len(slices.Compact(got)) == 36, true)
}

// All words are tried: the first one that makes a box is its word, and the last ones to come make the farthest boxes.
func TestPromise6AllWordsToBoxes(t *testing.T) {
	for _, c := range []struct {
		ground string
		rolls  int
	}{
		{".", 3}, {"....", 5}, {"....o", 5}, {".......", 8}, {"./././o", 6}, {"../../..", 7}, {"...o/....", 9}, {".--o/....", 9}, {".../.o./...", 11}, {"..#./.-.o", 9}, {"--/--/--", 6}, {"o.../..../....", 10}, {"...-/.#.o/....", 9},
	} {
		l := landOf(c.ground)
		for from, x := range l.boxes {
			expectTriedWords(t, l, from, x, c.rolls)
		}
	}
}

func expectTriedWords(t *testing.T, l *land, from int, x impl.Box, rolls int) {
	t.Helper()
	first := map[impl.Box]string{}
	var found []impl.Box
	for _, w := range l.tipsFrom(x, rolls) {
		if _, has := first[w.end]; !has {
			first[w.end] = w.word
			found = append(found, w.end)
		}
	}
	what := fmt.Sprint(l.text, x)
	longest := len(first[found[len(found)-1]])
	expectEqual(t, "all boxes are found in words that are short enough "+what, longest < rolls, true)
	for box, want := range first {
		got, ok := impl.WordToBox(l.text, x, box)
		expectSuccess(t, fmt.Sprint("WordToBox ", what, box), got, ok, want)
	}
	slices.SortFunc(found, inBoxOrder)
	reached, ok := impl.BoxesReached(l.text, x)
	expectList(t, "BoxesReached "+what, reached, ok, found)
	i := slices.IndexFunc(found, func(box impl.Box) bool { return len(first[box]) == longest })
	far, ok := farthestBox(l.text, x)
	expectSuccess(t, "FarthestBox "+what, far, ok, farBox{found[i], longest})
	if to, hasHole := l.holeBox(); hasHole {
		want, isReached := first[l.boxes[to]]
		got, ok := impl.WordToHole(l.text, x)
		expectEqual(t, "WordToHole "+what, got, want)
		expectEqual(t, "WordToHole succeeds "+what, ok, isReached)
	}
}

// What is reached turns with the ground and the box.
func TestPromise6TurnedReach(t *testing.T) {
	for _, l := range lands() {
		columns, rows := planOf(l.text).columns(), planOf(l.text).rows()
		ground, _ := impl.TurnGround(l.text)
		for _, from := range l.starts() {
			what := fmt.Sprint(" turned ", l.text, l.boxes[from])
			x, _ := impl.TurnBox(l.text, l.boxes[from])
			var want []impl.Box
			for _, to := range l.reached(from) {
				want = append(want, turnedBox(l.boxes[to], rows))
			}
			slices.SortFunc(want, inBoxOrder)
			got, ok := impl.BoxesReached(ground, x)
			expectList(t, "BoxesReached"+what, got, ok, want)
			_, far := l.farthest(from)
			farthest, ok := farthestBox(ground, x)
			expectSuccess(t, "FarthestBox"+what, farthest.rolls, ok, far)
			var cells []int
			for _, cell := range l.upCells(from) {
				cells = append(cells, cell%columns*rows+rows-1-cell/columns)
			}
			slices.Sort(cells)
			up, ok := impl.UpCells(ground, x)
			expectList(t, "UpCells"+what, up, ok, cells)
			word, ok := impl.WordToHole(ground, x)
			old, hasOld := impl.WordToHole(l.text, l.boxes[from])
			expectEqual(t, "WordToHole succeeds"+what, ok, hasOld)
			expectEqual(t, "the length of WordToHole"+what, len(word), len(old))
		}
		places, ok := impl.PlacesOnGround(ground)
		expectSuccess(t, "PlacesOnGround turned "+l.text, places, ok, len(l.boxes))
	}
}

// Where all is floor a box comes to all places; where all is weak it rolls across its line alone.
func TestPromise6WideGrounds(t *testing.T) {
	for _, size := range []place{{6, 6}, {7, 5}, {5, 7}, {4, 3}, {3, 4}} {
		b := floorBoard(size.x, size.y)
		places, _ := impl.PlacesOnGround(b)
		got, ok := impl.CountBoxes(b, impl.Box{})
		expectSuccess(t, "CountBoxes "+b, got, ok, places)
		weak := strings.ReplaceAll(b, ".", "-")
		got, ok = impl.CountBoxes(weak, impl.Box{Pose: impl.PoseEast})
		expectSuccess(t, "CountBoxes "+weak, got, ok, size.y)
		got, ok = impl.CountBoxes(weak, impl.Box{Pose: impl.PoseSouth})
		expectSuccess(t, "CountBoxes "+weak, got, ok, size.x)
	}
}
