package tests

import (
	"fmt"
	"regexp"
	"strings"
	"testing"

	"loop.example/g01207/impl"
)

func TestPromise6Constants(t *testing.T) {
	expectEqual(t, "MaxBoxStates", impl.MaxBoxStates, 400)
	expectEqual(t, "PoseUp", impl.PoseUp, 0)
	expectEqual(t, "PoseEast", impl.PoseEast, 1)
	expectEqual(t, "PoseSouth", impl.PoseSouth, 2)
}

func TestPromise6IsGround(t *testing.T) {
	for _, l := range append(lands(), smallLands()...) {
		expectEqual(t, fmt.Sprintf("IsGround %q", l.text), impl.IsGround(l.text), true)
	}
	for _, b := range sampleBoards() {
		expectEqual(t, fmt.Sprintf("IsGround of the board %q", b), impl.IsGround(b), true)
	}
	for _, b := range wrongGrounds() {
		expectEqual(t, fmt.Sprintf("IsGround %.60q", b), impl.IsGround(b), false)
	}
	for c := range 256 {
		sign := string([]byte{byte(c)})
		expectEqual(t, fmt.Sprintf("IsGround %q", sign), impl.IsGround(sign), strings.Contains(".#-o", sign))
		expectEqual(t, fmt.Sprintf("IsGround behind - %q", sign), impl.IsGround("-"+sign), strings.Contains(".#-o", sign))
		expectEqual(t, fmt.Sprintf("IsGround behind o %q", sign), impl.IsGround("o"+sign), strings.Contains(".#-", sign))
	}
}

func TestPromise6IsGroundOfAllSizes(t *testing.T) {
	for columns := range 40 {
		for rows := 1; rows < 40; rows++ {
			want := columns >= 1 && columns <= 7 && rows <= 7 && columns*rows <= 36
			b := floorBoard(columns, rows)
			expectEqual(t, fmt.Sprint("IsGround of the size ", columns, rows), impl.IsGround(b), want)
			expectEqual(t, fmt.Sprint("IsGround of weak floor of the size ", columns, rows), impl.IsGround(strings.ReplaceAll(b, ".", "-")), want)
			expectEqual(t, fmt.Sprint("IsGround with a hole of the size ", columns, rows), impl.IsGround(strings.Replace(b, ".", "o", 1)), want)
		}
	}
}

func TestPromise6IsGroundOfAllShortTexts(t *testing.T) {
	rows := regexp.MustCompile(`\A[.#o-]+(/[.#o-]+)*\z`)
	texts := []string{""}
	for next := 0; len(texts[next]) < 5; next++ {
		for _, sign := range []string{".", "#", "-", "o", "/", "x"} {
			texts = append(texts, texts[next]+sign)
		}
	}
	for _, b := range texts {
		widths := map[int]bool{}
		for _, row := range strings.Split(b, "/") {
			widths[len(row)] = true
		}
		want := rows.MatchString(b) && len(widths) == 1 && strings.Count(b, "o") < 2
		expectEqual(t, fmt.Sprintf("IsGround %q", b), impl.IsGround(b), want)
	}
}

func TestPromise6IsBox(t *testing.T) {
	for _, c := range []struct {
		ground string
		x      impl.Box
		want   bool
	}{
		{".", impl.Box{}, true}, {"o", impl.Box{}, true}, {"-", impl.Box{}, false}, {"#", impl.Box{}, false},
		{".", impl.Box{Pose: impl.PoseEast}, false}, {".", impl.Box{Pose: impl.PoseSouth}, false}, {".", impl.Box{X: 1}, false}, {".", impl.Box{X: -1, Pose: impl.PoseEast}, false}, {".", impl.Box{Y: -1, Pose: impl.PoseSouth}, false},
		{"..", impl.Box{Pose: impl.PoseEast}, true}, {"--", impl.Box{Pose: impl.PoseEast}, true}, {".o", impl.Box{Pose: impl.PoseEast}, true}, {"o-", impl.Box{Pose: impl.PoseEast}, true}, {".#", impl.Box{Pose: impl.PoseEast}, false}, {"#.", impl.Box{Pose: impl.PoseEast}, false},
		{"./.", impl.Box{Pose: impl.PoseSouth}, true}, {"-/-", impl.Box{Pose: impl.PoseSouth}, true}, {"o/.", impl.Box{Pose: impl.PoseSouth}, true}, {"-/o", impl.Box{Pose: impl.PoseSouth}, true}, {"./#", impl.Box{Pose: impl.PoseSouth}, false}, {"#/.", impl.Box{Pose: impl.PoseSouth}, false},
		{"..", impl.Box{Pose: impl.PoseSouth}, false}, {"./.", impl.Box{Pose: impl.PoseEast}, false}, {"..", impl.Box{X: 1, Pose: impl.PoseEast}, false}, {"./.", impl.Box{Y: 1, Pose: impl.PoseSouth}, false},
		{"..", impl.Box{Pose: 3}, false}, {"..", impl.Box{Pose: -1}, false}, {"../..", impl.Box{X: 1, Pose: impl.PoseEast}, false}, {"../..", impl.Box{Y: 1, Pose: impl.PoseSouth}, false},
	} {
		got, ok := impl.IsBox(c.ground, c.x)
		expectSuccess(t, fmt.Sprint("IsBox ", c.ground, c.x), got, ok, c.want)
	}
	for _, l := range append(lands(), smallLands()...) {
		for _, x := range l.boxes {
			got, ok := impl.IsBox(l.text, x)
			expectSuccess(t, fmt.Sprint("IsBox ", l.text, x), got, ok, true)
		}
		for _, x := range l.off() {
			got, ok := impl.IsBox(l.text, x)
			expectSuccess(t, fmt.Sprint("IsBox ", l.text, x), got, ok, false)
		}
	}
	for _, b := range wrongGrounds() {
		for _, x := range []impl.Box{{}, {Pose: impl.PoseEast}, {Pose: impl.PoseSouth}, {X: -1}, {Pose: 3}} {
			got, ok := impl.IsBox(b, x)
			expectFailure(t, fmt.Sprintf("IsBox %.60q %v", b, x), got, ok)
		}
	}
}

func TestPromise6CellsOfBox(t *testing.T) {
	for x, want := range map[impl.Box][]int{
		{}: {0, 0}, {Pose: impl.PoseEast}: {0, 0, 1, 0}, {Pose: impl.PoseSouth}: {0, 0, 0, 1}, {X: 2, Y: 5}: {2, 5},
		{X: 6, Y: 6}: {6, 6}, {X: 6, Y: 6, Pose: impl.PoseEast}: {6, 6, 7, 6}, {X: 6, Y: 6, Pose: impl.PoseSouth}: {6, 6, 6, 7}, {X: 6, Pose: impl.PoseEast}: {6, 0, 7, 0}, {Y: 6, Pose: impl.PoseSouth}: {0, 6, 0, 7},
	} {
		got, ok := impl.CellsOfBox(x)
		expectList(t, fmt.Sprint("CellsOfBox ", x), got, ok, want)
	}
	for y := -3; y <= 9; y++ {
		for x := -3; x <= 9; x++ {
			for pose := -3; pose <= 5; pose++ {
				box := impl.Box{X: x, Y: y, Pose: pose}
				got, ok := impl.CellsOfBox(box)
				if min(x, y, pose) < 0 || max(x, y) > 6 || pose > 2 {
					expectNoList(t, fmt.Sprint("CellsOfBox ", box), got, ok)
					continue
				}
				under := cubesOf(box).places()
				want := []int{under[0].x, under[0].y, under[1].x, under[1].y}
				if under[0] == under[1] {
					want = want[:2]
				}
				expectList(t, fmt.Sprint("CellsOfBox ", box), got, ok, want)
			}
		}
	}
	for _, x := range strangeBoxes() {
		got, ok := impl.CellsOfBox(x)
		expectNoList(t, fmt.Sprint("CellsOfBox ", x), got, ok)
	}
}

// All rolls in the middle of a wide ground, in the line of a box and across it, and each of them rolled back.
func TestPromise6RollBox(t *testing.T) {
	for _, c := range []struct {
		from impl.Box
		dir  string
		want impl.Box
	}{
		{impl.Box{X: 2, Y: 2}, "n", impl.Box{X: 2, Y: 0, Pose: impl.PoseSouth}},
		{impl.Box{X: 2, Y: 2}, "e", impl.Box{X: 3, Y: 2, Pose: impl.PoseEast}},
		{impl.Box{X: 2, Y: 2}, "s", impl.Box{X: 2, Y: 3, Pose: impl.PoseSouth}},
		{impl.Box{X: 2, Y: 2}, "w", impl.Box{X: 0, Y: 2, Pose: impl.PoseEast}},
		{impl.Box{X: 2, Y: 2, Pose: impl.PoseEast}, "n", impl.Box{X: 2, Y: 1, Pose: impl.PoseEast}},
		{impl.Box{X: 2, Y: 2, Pose: impl.PoseEast}, "e", impl.Box{X: 4, Y: 2}},
		{impl.Box{X: 2, Y: 2, Pose: impl.PoseEast}, "s", impl.Box{X: 2, Y: 3, Pose: impl.PoseEast}},
		{impl.Box{X: 2, Y: 2, Pose: impl.PoseEast}, "w", impl.Box{X: 1, Y: 2}},
		{impl.Box{X: 2, Y: 2, Pose: impl.PoseSouth}, "n", impl.Box{X: 2, Y: 1}},
		{impl.Box{X: 2, Y: 2, Pose: impl.PoseSouth}, "e", impl.Box{X: 3, Y: 2, Pose: impl.PoseSouth}},
		{impl.Box{X: 2, Y: 2, Pose: impl.PoseSouth}, "s", impl.Box{X: 2, Y: 4}},
		{impl.Box{X: 2, Y: 2, Pose: impl.PoseSouth}, "w", impl.Box{X: 1, Y: 2, Pose: impl.PoseSouth}},
	} {
		got, ok := impl.RollBox(floorBoard(6, 6), c.from, c.dir)
		expectSuccess(t, fmt.Sprint("RollBox ", c.from, c.dir), got, ok, c.want)
		back, ok := impl.RollBox(floorBoard(6, 6), got, backDirections[c.dir])
		expectSuccess(t, fmt.Sprint("RollBox and back ", c.from, c.dir), back, ok, c.from)
	}
}

func TestPromise6RollBoxOnGrounds(t *testing.T) {
	for _, l := range append(lands(), smallLands()...) {
		for _, x := range l.boxes {
			for dir, back := range backDirections {
				what := fmt.Sprint("RollBox ", l.text, x, dir)
				got, ok := impl.RollBox(l.text, x, dir)
				way := l.tips(x, dir)
				if len(way) == 1 {
					expectFailure(t, what, got, ok)
					continue
				}
				expectSuccess(t, what, got, ok, way[1])
				isBox, ok := impl.IsBox(l.text, got)
				expectSuccess(t, "IsBox behind "+what, isBox, ok, true)
				again, ok := impl.RollBox(l.text, got, back)
				expectSuccess(t, what+" and back", again, ok, x)
			}
		}
	}
}

// What keeps a box from rolling is nothing, a side, and weak floor on which it would stand; on weak floor it may lie, on the hole it may lie and stand.
func TestPromise6RollBoxWhereItCannot(t *testing.T) {
	standing, lying := impl.Box{}, impl.Box{Pose: impl.PoseEast}
	for _, c := range []struct {
		ground string
		from   impl.Box
		want   impl.Box
		ok     bool
	}{
		{"...", standing, impl.Box{X: 1, Pose: impl.PoseEast}, true}, {".--", standing, impl.Box{X: 1, Pose: impl.PoseEast}, true}, {".o-", standing, impl.Box{X: 1, Pose: impl.PoseEast}, true}, {".-o", standing, impl.Box{X: 1, Pose: impl.PoseEast}, true}, {"o..", standing, impl.Box{X: 1, Pose: impl.PoseEast}, true},
		{".", standing, impl.Box{}, false}, {"..", standing, impl.Box{}, false}, {".#.", standing, impl.Box{}, false}, {"..#", standing, impl.Box{}, false}, {"-..", standing, impl.Box{}, false}, {"#..", standing, impl.Box{}, false},
		{"...", lying, impl.Box{X: 2}, true}, {"--.", lying, impl.Box{X: 2}, true}, {"..o", lying, impl.Box{X: 2}, true}, {"-o.", lying, impl.Box{X: 2}, true},
		{"..", lying, impl.Box{}, false}, {"..#", lying, impl.Box{}, false}, {"..-", lying, impl.Box{}, false}, {"--o", lying, impl.Box{X: 2}, true}, {"#..", lying, impl.Box{}, false}, {".#.", lying, impl.Box{}, false},
	} {
		got, ok := impl.RollBox(c.ground, c.from, "e")
		expectEqual(t, fmt.Sprint("RollBox ", c.ground, c.from), got, c.want)
		expectEqual(t, fmt.Sprint("RollBox succeeds ", c.ground, c.from), ok, c.ok)
	}
}

func TestPromise6RollBoxFails(t *testing.T) {
	for _, c := range wrongTips() {
		got, ok := impl.RollBox(c.ground, c.start, c.word)
		expectFailure(t, fmt.Sprintf("RollBox %.80q", fmt.Sprint(c)), got, ok)
	}
	// From the middle of the ground two rolls or more could be made as well.
	for _, x := range []impl.Box{{X: 2, Y: 2}, {X: 2, Y: 2, Pose: impl.PoseEast}, {X: 2, Y: 2, Pose: impl.PoseSouth}} {
		for _, dir := range wrongDirections() {
			got, ok := impl.RollBox(floorBoard(6, 6), x, dir)
			expectFailure(t, fmt.Sprintf("RollBox in the direction %.80q", dir), got, ok)
		}
	}
}

func TestPromise6BoxWays(t *testing.T) {
	for _, c := range []struct {
		ground string
		x      impl.Box
		want   string
	}{
		{".", impl.Box{}, ""}, {"o", impl.Box{}, ""}, {"..", impl.Box{}, ""}, {"...", impl.Box{}, "e"}, {"...", impl.Box{X: 2}, "w"}, {"...", impl.Box{X: 1}, ""}, {"..", impl.Box{Pose: impl.PoseEast}, ""},
		{"..../....", impl.Box{X: 1, Pose: impl.PoseEast}, "esw"}, {floorBoard(5, 5), impl.Box{X: 2, Y: 2}, "nesw"}, {floorBoard(4, 3), impl.Box{X: 1, Y: 1, Pose: impl.PoseEast}, "nesw"}, {floorBoard(3, 4), impl.Box{X: 1, Y: 1, Pose: impl.PoseSouth}, "nesw"},
		{"----/----/----", impl.Box{X: 1, Y: 1, Pose: impl.PoseEast}, "ns"}, {"---/---/---/---", impl.Box{X: 1, Y: 1, Pose: impl.PoseSouth}, "ew"}, {"--.--/--.--/.....", impl.Box{X: 2, Y: 2}, "new"}, {"-.-/-o-", impl.Box{X: 1, Pose: impl.PoseSouth}, "ew"}, {"#.#/#o#/...", impl.Box{X: 1, Y: 0}, "s"},
	} {
		got, ok := impl.BoxWays(c.ground, c.x)
		expectSuccess(t, fmt.Sprint("BoxWays ", c.ground, c.x), got, ok, c.want)
	}
	for _, l := range append(lands(), smallLands()...) {
		for _, x := range l.boxes {
			got, ok := impl.BoxWays(l.text, x)
			expectSuccess(t, fmt.Sprint("BoxWays ", l.text, x), got, ok, l.ways(x))
		}
	}
}

func TestPromise6RollBoxAlong(t *testing.T) {
	for word, want := range map[string]impl.Box{"": {}, "e": {X: 1, Pose: impl.PoseEast}, "ee": {X: 3}, "eeww": {}, strings.Repeat("ew", 30): {}, strings.Repeat("ew", 29) + "ee": {X: 3}} {
		for _, b := range []string{"...o", "....o"} {
			got, ok := impl.RollBoxAlong(b, impl.Box{}, word)
			expectSuccess(t, "RollBoxAlong "+b+" "+word, got, ok, want)
		}
	}
	for _, word := range []string{"eee", "eees", "eeewww", "n", "w", "s", "se", strings.Repeat("ew", 31), strings.Repeat("ew", 30) + "e"} {
		got, ok := impl.RollBoxAlong("....o", impl.Box{}, word)
		expectFailure(t, "RollBoxAlong "+word, got, ok)
	}
	for _, c := range tipCases() {
		what := fmt.Sprint("RollBoxAlong ", c.ground, c.start, c.word)
		got, ok := impl.RollBoxAlong(c.ground, c.start, c.word)
		if !c.isWhole() {
			expectFailure(t, what, got, ok)
			continue
		}
		expectSuccess(t, what, got, ok, c.way[len(c.word)])
		back, _ := impl.BackWord(c.word)
		again, ok := impl.RollBoxAlong(c.ground, got, back)
		expectSuccess(t, what+" and back", again, ok, c.start)
	}
	for _, c := range wrongTips() {
		got, ok := impl.RollBoxAlong(c.ground, c.start, c.word)
		expectFailure(t, fmt.Sprintf("RollBoxAlong %.80q", fmt.Sprint(c)), got, ok)
	}
}

func TestPromise6PosesAlong(t *testing.T) {
	for word, want := range map[string]string{"": "u", "e": "ue", "ee": "ueu", "s": "us", "es": "uee", "ese": "ueeu", "ss": "usu", "se": "uss", "essn": "ueeee", "essss": "", "n": "", "eee": ""} {
		got, ok := impl.PosesAlong(floorBoard(4, 4), impl.Box{}, word)
		expectEqual(t, "PosesAlong "+word, got, want)
		expectEqual(t, "PosesAlong succeeds "+word, ok, want != "")
	}
	got, ok := impl.PosesAlong("...", impl.Box{}, strings.Repeat("ew", 30))
	expectSuccess(t, "PosesAlong of sixty rolls", got, ok, strings.Repeat("ue", 30)+"u")
	for _, c := range tipCases() {
		what := fmt.Sprint("PosesAlong ", c.ground, c.start, c.word)
		got, ok := impl.PosesAlong(c.ground, c.start, c.word)
		if !c.isWhole() {
			expectFailure(t, what, got, ok)
			continue
		}
		want := ""
		for _, x := range c.way {
			want += string("ues"[x.Pose])
		}
		expectSuccess(t, what, got, ok, want)
	}
	for _, c := range wrongTips() {
		got, ok := impl.PosesAlong(c.ground, c.start, c.word)
		expectFailure(t, fmt.Sprintf("PosesAlong %.80q", fmt.Sprint(c)), got, ok)
	}
}

func TestPromise6PlacesOnGround(t *testing.T) {
	for b, want := range map[string]int{".": 1, "o": 1, "-": 0, "#": 0, "..": 3, "--": 1, ".-": 2, "-o": 2, ".#": 1, "./.": 3, "-/-": 1, "../..": 8, "--/--": 4, "####/#..#/####": 3, floorBoard(6, 6): 96, floorBoard(7, 5): 93, floorBoard(5, 7): 93, floorBoard(7, 1): 13, strings.ReplaceAll(floorBoard(6, 6), ".", "-"): 60} {
		got, ok := impl.PlacesOnGround(b)
		expectSuccess(t, "PlacesOnGround "+b, got, ok, want)
	}
	for _, l := range append(lands(), smallLands()...) {
		got, ok := impl.PlacesOnGround(l.text)
		expectSuccess(t, "PlacesOnGround "+l.text, got, ok, len(l.boxes))
	}
	for _, b := range wrongGrounds() {
		got, ok := impl.PlacesOnGround(b)
		expectFailure(t, fmt.Sprintf("PlacesOnGround %.60q", b), got, ok)
	}
}

func TestPromise6TurnBox(t *testing.T) {
	for _, c := range []struct {
		ground string
		x      impl.Box
		want   impl.Box
	}{
		{".", impl.Box{}, impl.Box{}}, {"...", impl.Box{X: 2}, impl.Box{Y: 2}}, {"./././.", impl.Box{}, impl.Box{X: 3}}, {"...", impl.Box{X: 1, Pose: impl.PoseEast}, impl.Box{Y: 1, Pose: impl.PoseSouth}}, {"././.", impl.Box{Pose: impl.PoseSouth}, impl.Box{X: 1, Pose: impl.PoseEast}},
		{floorBoard(4, 3), impl.Box{X: 3, Y: 1}, impl.Box{X: 1, Y: 3}}, {floorBoard(4, 3), impl.Box{X: 2, Y: 0, Pose: impl.PoseEast}, impl.Box{X: 2, Y: 2, Pose: impl.PoseSouth}}, {floorBoard(4, 3), impl.Box{X: 3, Y: 1, Pose: impl.PoseSouth}, impl.Box{X: 0, Y: 3, Pose: impl.PoseEast}},
	} {
		got, ok := impl.TurnBox(c.ground, c.x)
		expectSuccess(t, fmt.Sprint("TurnBox ", c.ground, c.x), got, ok, c.want)
	}
	for _, l := range append(lands(), smallLands()...) {
		for _, x := range l.boxes {
			got, ok := impl.TurnBox(l.text, x)
			expectSuccess(t, fmt.Sprint("TurnBox ", l.text, x), got, ok, turnedBox(x, planOf(l.text).rows()))
		}
	}
}

func TestPromise6TurnGround(t *testing.T) {
	for b, want := range map[string]string{".": ".", "o": "o", ".#-o": "./#/-/o", "./#/-/o": "o-#.", "..o/-#.": "-./#./.o", ".-/o#": "o./#-"} {
		got, ok := impl.TurnGround(b)
		expectSuccess(t, "TurnGround "+b, got, ok, want)
	}
	for _, l := range append(lands(), smallLands()...) {
		got, ok := impl.TurnGround(l.text)
		expectSuccess(t, "TurnGround "+l.text, got, ok, l.turnedGround())
	}
	for _, b := range wrongGrounds() {
		got, ok := impl.TurnGround(b)
		expectFailure(t, fmt.Sprintf("TurnGround %.60q", b), got, ok)
	}
}

// Boxes and grounds turned four times are as before.
func TestPromise6FourTurns(t *testing.T) {
	for _, l := range lands() {
		for _, i := range l.starts() {
			b, x := l.text, l.boxes[i]
			for range 4 {
				turned, ok := impl.TurnGround(b)
				expectEqual(t, "TurnGround succeeds", ok, true)
				x, ok = impl.TurnBox(b, x)
				expectEqual(t, "TurnBox succeeds", ok, true)
				b = turned
				isBox, ok := impl.IsBox(b, x)
				expectSuccess(t, fmt.Sprint("IsBox turned ", b, x), isBox, ok, true)
			}
			expectEqual(t, fmt.Sprint("TurnBox four times ", l.text), x, l.boxes[i])
			expectEqual(t, "TurnGround four times", b, l.text)
		}
	}
}

// Turned words make turned boxes.
func TestPromise6TurnedRolls(t *testing.T) {
	for i, c := range tipCases() {
		if i%5 > 0 {
			continue
		}
		ground, _ := impl.TurnGround(c.ground)
		start, _ := impl.TurnBox(c.ground, c.start)
		word, _ := impl.TurnRolls(c.word)
		got, ok := impl.RollBoxAlong(ground, start, word)
		expectEqual(t, fmt.Sprint("RollBoxAlong turned succeeds ", c.ground, c.start, c.word), ok, c.isWhole())
		if c.isWhole() {
			expectEqual(t, fmt.Sprint("RollBoxAlong turned ", c.ground, c.start, c.word), got, turnedBox(c.way[len(c.word)], planOf(c.ground).rows()))
		}
	}
}

// toldOfBox is a function of a ground and a box, made to tell its result as a text.
type toldOfBox func(b string, x impl.Box) (string, bool)

func toldBox[T comparable](call func(b string, x impl.Box) (T, bool)) toldOfBox {
	return func(b string, x impl.Box) (string, bool) {
		got, ok := call(b, x)
		return shown(got), ok
	}
}

func toldBoxes[T any](call func(b string, x impl.Box) ([]T, bool)) toldOfBox {
	return func(b string, x impl.Box) (string, bool) {
		got, ok := call(b, x)
		return strings.Trim(fmt.Sprint(got), "[]"), ok
	}
}

// farBox is a box and its distance.
type farBox struct {
	box   impl.Box
	rolls int
}

func farthestBox(b string, x impl.Box) (farBox, bool) {
	box, rolls, ok := impl.FarthestBox(b, x)
	return farBox{box, rolls}, ok
}

var boxCalls = map[string]toldOfBox{
	"BoxWays":      toldBox(impl.BoxWays),
	"BoxesReached": toldBoxes(impl.BoxesReached),
	"CountBoxes":   toldBox(impl.CountBoxes),
	"WordToHole":   toldBox(impl.WordToHole),
	"FarthestBox":  toldBox(farthestBox),
	"UpCells":      toldBoxes(impl.UpCells),
	"TurnBox":      toldBox(impl.TurnBox),
	"WordToBox":    toldBox(func(b string, x impl.Box) (string, bool) { return impl.WordToBox(b, x, x) }),
}

func TestPromise6GroundsAndBoxesThatAreNone(t *testing.T) {
	for name, call := range boxCalls {
		for _, b := range wrongGrounds() {
			for _, x := range []impl.Box{{}, {Pose: impl.PoseEast}, {Pose: impl.PoseSouth}, {X: 1, Y: 1}} {
				got, ok := call(b, x)
				expectFailure(t, fmt.Sprintf("%s %.60q %v", name, b, x), got, ok)
			}
		}
		for _, l := range lands() {
			for _, x := range l.off() {
				got, ok := call(l.text, x)
				expectFailure(t, fmt.Sprint(name, " ", l.text, x), got, ok)
			}
		}
	}
}
