package tests

import (
	"fmt"
	"math"
	"regexp"
	"slices"
	"strings"
	"testing"

	"loop.example/g01207/impl"
)

func TestPromise2Constants(t *testing.T) {
	expectEqual(t, "MaxSide", impl.MaxSide, 7)
	expectEqual(t, "MaxCells", impl.MaxCells, 36)
}

func TestPromise2IsBoard(t *testing.T) {
	for _, b := range sampleBoards() {
		expectEqual(t, fmt.Sprintf("IsBoard %q", b), impl.IsBoard(b), true)
	}
	for _, b := range wrongBoards() {
		expectEqual(t, fmt.Sprintf("IsBoard %.60q", b), impl.IsBoard(b), false)
	}
	for c := range 256 {
		sign := string([]byte{byte(c)})
		expectEqual(t, fmt.Sprintf("IsBoard %q", sign), impl.IsBoard(sign), strings.Contains(".#", sign))
	}
}

func TestPromise2IsBoardOfAllSizes(t *testing.T) {
	for columns := range 40 {
		for rows := 1; rows < 40; rows++ {
			want := columns >= 1 && columns <= 7 && rows <= 7 && columns*rows <= 36
			expectEqual(t, fmt.Sprint("IsBoard of the size ", columns, rows), impl.IsBoard(floorBoard(columns, rows)), want)
		}
	}
}

func TestPromise2IsBoardOfAllShortTexts(t *testing.T) {
	rows := regexp.MustCompile(`^[.#]+(/[.#]+)*$`)
	texts := []string{""}
	for next := 0; len(texts[next]) < 6; next++ {
		for _, sign := range []string{".", "#", "/", "x"} {
			texts = append(texts, texts[next]+sign)
		}
	}
	for _, b := range texts {
		widths := map[int]bool{}
		for _, row := range strings.Split(b, "/") {
			widths[len(row)] = true
		}
		expectEqual(t, fmt.Sprintf("IsBoard %q", b), impl.IsBoard(b), rows.MatchString(b) && len(widths) == 1)
	}
}

func TestPromise2BoardSize(t *testing.T) {
	for columns := 1; columns <= 7; columns++ {
		for rows := 1; rows <= min(7, 36/columns); rows++ {
			x, y, ok := impl.BoardSize(floorBoard(columns, rows))
			expectEqual(t, fmt.Sprint("BoardSize ", columns, rows), place{x, y}, place{columns, rows})
			expectEqual(t, "BoardSize succeeds", ok, true)
		}
	}
	for _, b := range sampleBoards() {
		x, y, ok := impl.BoardSize(b)
		expectEqual(t, "BoardSize "+b, place{x, y}, place{planOf(b).columns(), planOf(b).rows()})
		expectEqual(t, "BoardSize succeeds", ok, true)
	}
	for _, b := range wrongBoards() {
		x, y, ok := impl.BoardSize(b)
		expectFailure(t, fmt.Sprintf("BoardSize %.60q", b), place{x, y}, ok)
	}
}

func TestPromise2IsFloor(t *testing.T) {
	for _, b := range sampleBoards() {
		cells := planOf(b)
		for y := -9; y <= 9; y++ {
			for x := -9; x <= 9; x++ {
				what := fmt.Sprintf("IsFloor %q %d %d", b, x, y)
				got, ok := impl.IsFloor(b, x, y)
				want, found := cells[place{x, y}]
				expectEqual(t, what, got, want)
				expectEqual(t, what+" succeeds", ok, found)
			}
		}
		for _, far := range []int{math.MinInt, -256, 255, 256, 1 << 32, math.MaxInt} {
			for _, at := range []place{{far, 0}, {0, far}, {far, far}} {
				got, ok := impl.IsFloor(b, at.x, at.y)
				expectFailure(t, fmt.Sprintf("IsFloor %q %v", b, at), got, ok)
			}
		}
	}
	for _, b := range wrongBoards() {
		for _, at := range []place{{0, 0}, {1, 0}, {0, 1}, {-1, 0}} {
			got, ok := impl.IsFloor(b, at.x, at.y)
			expectFailure(t, fmt.Sprintf("IsFloor %.60q %v", b, at), got, ok)
		}
	}
}

func TestPromise2CountFloor(t *testing.T) {
	for b, want := range map[string]int{".": 1, "#": 0, "##/##": 0, ".../.#.": 5, floorBoard(6, 6): 36, floorBoard(7, 5): 35, "./#": 1} {
		got, ok := impl.CountFloor(b)
		expectEqual(t, "CountFloor "+b, got, want)
		expectEqual(t, "CountFloor succeeds", ok, true)
	}
	for _, b := range sampleBoards() {
		got, ok := impl.CountFloor(b)
		expectEqual(t, "CountFloor "+b, got, len(startsOn(b)))
		expectEqual(t, "CountFloor succeeds", ok, true)
	}
	for _, b := range wrongBoards() {
		got, ok := impl.CountFloor(b)
		expectFailure(t, fmt.Sprintf("CountFloor %.60q", b), got, ok)
	}
}

func TestPromise2IsState(t *testing.T) {
	for _, b := range sampleBoards() {
		cells := planOf(b)
		for y := -2; y <= 8; y++ {
			for x := -2; x <= 8; x++ {
				for _, d := range sampleDice() {
					got, ok := impl.IsState(b, impl.State{X: x, Y: y, Die: d})
					expectEqual(t, fmt.Sprintf("IsState %q %d %d %v", b, x, y, d), got, cells[place{x, y}])
					expectEqual(t, "IsState succeeds", ok, true)
				}
			}
		}
		for _, s := range statesOff(b) {
			got, ok := impl.IsState(b, s)
			expectEqual(t, fmt.Sprintf("IsState %q %v", b, s), got, false)
			expectEqual(t, "IsState succeeds", ok, true)
		}
	}
	for _, b := range wrongBoards() {
		for _, s := range []impl.State{state(0, 0, "123456"), state(-1, 0, "123456"), {Die: impl.Die{Top: -1}}} {
			got, ok := impl.IsState(b, s)
			expectFailure(t, fmt.Sprintf("IsState %.60q %v", b, s), got, ok)
		}
	}
}

func TestPromise2RollState(t *testing.T) {
	for dir, want := range map[string]impl.State{"n": state(1, 0, "413652"), "e": state(2, 1, "521463"), "s": state(1, 2, "263154"), "w": state(0, 1, "326415")} {
		got, ok := impl.RollState(".../.../...", state(1, 1, "123456"), dir)
		expectEqual(t, "RollState 123456 "+dir, got, want)
		expectEqual(t, "RollState succeeds", ok, true)
	}
	for _, b := range sampleBoards() {
		for _, s := range startsOn(b) {
			for _, dir := range []string{"n", "e", "s", "w"} {
				what := fmt.Sprintf("RollState %q %v %s", b, s, dir)
				got, ok := impl.RollState(b, s, dir)
				way := planOf(b).walk(s, dir)
				if len(way) == 1 {
					expectFailure(t, what, got, ok)
					continue
				}
				expectEqual(t, what, got, way[1])
				expectEqual(t, what+" succeeds", ok, true)
			}
		}
	}
}

func TestPromise2RollStateFails(t *testing.T) {
	for _, c := range wrongWalks() {
		got, ok := impl.RollState(c.board, c.start, c.word)
		expectFailure(t, fmt.Sprintf("RollState %.80q", fmt.Sprint(c)), got, ok)
	}
	// From the middle of the board two rolls or more could be made as well.
	for _, s := range []impl.State{state(2, 2, "123456"), state(0, 0, "123456")} {
		for _, dir := range wrongDirections() {
			got, ok := impl.RollState(floorBoard(5, 5), s, dir)
			expectFailure(t, fmt.Sprintf("RollState in the direction %.80q", dir), got, ok)
		}
	}
}

func TestPromise2RollsOnFloorAreUndone(t *testing.T) {
	opposite := map[string]string{"n": "s", "e": "w", "s": "n", "w": "e"}
	for _, b := range sampleBoards() {
		for _, s := range startsOn(b) {
			for dir, back := range opposite {
				there, ok := impl.RollState(b, s, dir)
				if !ok {
					continue
				}
				floor, found := impl.IsFloor(b, there.X, there.Y)
				expectEqual(t, fmt.Sprintf("floor behind a roll on %q, %v %s", b, s, dir), floor && found, true)
				again, ok := impl.RollState(b, there, back)
				expectEqual(t, fmt.Sprintf("rolled there and back on %q, %v %s", b, s, dir), again, s)
				expectEqual(t, "RollState succeeds", ok, true)
			}
		}
	}
}

func TestPromise2CanRoll(t *testing.T) {
	for _, c := range []struct {
		board string
		start impl.State
		want  string
	}{
		{".../.#.", state(0, 0, "123456"), "es"}, {".../.#.", state(1, 0, "123456"), "ew"}, {".../.#.", state(2, 1, "000000"), "n"},
		{".", state(0, 0, "123456"), ""}, {".../.../...", state(1, 1, "123456"), "nesw"}, {"#.#/.../#.#", state(1, 1, "123456"), "nesw"}, {"#/./#", state(0, 1, "123456"), ""},
	} {
		got, ok := impl.CanRoll(c.board, c.start)
		expectEqual(t, fmt.Sprint("CanRoll ", c), got, c.want)
		expectEqual(t, "CanRoll succeeds", ok, true)
	}
	for _, b := range sampleBoards() {
		for _, s := range startsOn(b) {
			got, ok := impl.CanRoll(b, s)
			expectEqual(t, fmt.Sprintf("CanRoll %q %v", b, s), got, planOf(b).moves(s))
			expectEqual(t, "CanRoll succeeds", ok, true)
		}
		for _, s := range statesOff(b) {
			got, ok := impl.CanRoll(b, s)
			expectFailure(t, fmt.Sprintf("CanRoll %q %v", b, s), got, ok)
		}
	}
	for _, b := range wrongBoards() {
		got, ok := impl.CanRoll(b, state(0, 0, "123456"))
		expectFailure(t, fmt.Sprintf("CanRoll %.60q", b), got, ok)
	}
}

// The four functions along words: each case is a word on a board, whole or with a stop.

func TestPromise2RollAlong(t *testing.T) {
	got, ok := impl.RollAlong(".../.#.", state(0, 0, "123456"), "ees")
	expectEqual(t, "RollAlong ees", got, state(2, 1, "215634"))
	expectEqual(t, "RollAlong succeeds", ok, true)
	for _, c := range walkCases() {
		what := fmt.Sprint("RollAlong ", c.board, c.start, c.word)
		got, ok := impl.RollAlong(c.board, c.start, c.word)
		if !c.isWhole() {
			expectFailure(t, what, got, ok)
			continue
		}
		expectEqual(t, what, got, c.way[len(c.word)])
		expectEqual(t, what+" succeeds", ok, true)
	}
	for _, c := range wrongWalks() {
		got, ok := impl.RollAlong(c.board, c.start, c.word)
		expectFailure(t, fmt.Sprintf("RollAlong %.80q", fmt.Sprint(c)), got, ok)
	}
}

func TestPromise2TopsAlong(t *testing.T) {
	if got, ok := impl.TopsAlong(".../.#.", state(0, 0, "123456"), "ees"); !ok || !slices.Equal(got, []int{1, 5, 6, 2}) {
		t.Error("TopsAlong ees", got, ok)
	}
	for _, c := range walkCases() {
		var want []int
		if c.isWhole() {
			for _, s := range c.way {
				want = append(want, s.Die.Top)
			}
		}
		if got, ok := impl.TopsAlong(c.board, c.start, c.word); ok != c.isWhole() || !slices.Equal(got, want) {
			t.Errorf("TopsAlong %q %v %q: got %v, %v, want %v", c.board, c.start, c.word, got, ok, want)
		}
	}
	for _, c := range wrongWalks() {
		if got, ok := impl.TopsAlong(c.board, c.start, c.word); ok || len(got) > 0 {
			t.Errorf("TopsAlong %.80q: got %v, %v", fmt.Sprint(c), got, ok)
		}
	}
}

func TestPromise2SumOfTops(t *testing.T) {
	for word, want := range map[string]int{"": 1, "e": 6, "ees": 14, "ew": 7, "s": 3} {
		got, ok := impl.SumOfTops(".../.#.", state(0, 0, "123456"), word)
		expectEqual(t, "SumOfTops "+word, got, want)
		expectEqual(t, "SumOfTops succeeds", ok, true)
	}
	got, ok := impl.SumOfTops("..", state(0, 0, "999999"), strings.Repeat("ew", 30))
	expectEqual(t, "SumOfTops of nines", got, 9*61)
	expectEqual(t, "SumOfTops succeeds", ok, true)
	for _, c := range walkCases() {
		want := 0
		for _, s := range c.way {
			want += s.Die.Top
		}
		what := fmt.Sprint("SumOfTops ", c.board, c.start, c.word)
		got, ok := impl.SumOfTops(c.board, c.start, c.word)
		if !c.isWhole() {
			expectFailure(t, what, got, ok)
			continue
		}
		expectEqual(t, what, got, want)
		expectEqual(t, what+" succeeds", ok, true)
	}
	for _, c := range wrongWalks() {
		got, ok := impl.SumOfTops(c.board, c.start, c.word)
		expectFailure(t, fmt.Sprintf("SumOfTops %.80q", fmt.Sprint(c)), got, ok)
	}
}

func TestPromise2StatesAlong(t *testing.T) {
	want := []impl.State{state(0, 0, "123456"), state(1, 0, "521463"), state(2, 0, "625431"), state(2, 1, "215634")}
	if got, ok := impl.StatesAlong(".../.#.", state(0, 0, "123456"), "ees"); !ok || !slices.Equal(got, want) {
		t.Error("StatesAlong ees", got, ok)
	}
	for _, c := range walkCases() {
		got, ok := impl.StatesAlong(c.board, c.start, c.word)
		if !c.isWhole() && (ok || len(got) > 0) {
			t.Errorf("StatesAlong %q %v %q: got %v, %v, want a failure", c.board, c.start, c.word, got, ok)
		}
		if c.isWhole() && (!ok || !slices.Equal(got, c.way)) {
			t.Errorf("StatesAlong %q %v %q: got %v, %v, want %v", c.board, c.start, c.word, got, ok, c.way)
		}
	}
	for _, c := range wrongWalks() {
		if got, ok := impl.StatesAlong(c.board, c.start, c.word); ok || len(got) > 0 {
			t.Errorf("StatesAlong %.80q: got %v, %v", fmt.Sprint(c), got, ok)
		}
	}
}

func TestPromise2FirstStop(t *testing.T) {
	for word, want := range map[string]int{"": 0, "n": 0, "w": 0, "es": 1, "ees": 3, "eess": 3, "eeswn": 3, "ssnn": 1, "eee": 2, "eewwsnee": 8} {
		got, ok := impl.FirstStop(".../.#.", state(0, 0, "123456"), word)
		expectEqual(t, "FirstStop "+word, got, want)
		expectEqual(t, "FirstStop succeeds", ok, true)
	}
	longest, stopped := 0, 0
	for _, c := range walkCases() {
		got, ok := impl.FirstStop(c.board, c.start, c.word)
		expectEqual(t, fmt.Sprint("FirstStop ", c.board, c.start, c.word), got, len(c.way)-1)
		expectEqual(t, "FirstStop succeeds", ok, true)
		longest = max(longest, got)
		if got == 59 && len(c.word) == 60 {
			stopped++
		}
	}
	expectEqual(t, "FirstStop of the longest word", longest, 60)
	expectEqual(t, "words that stop at their last roll", stopped > 0, true)
	for _, c := range wrongWalks() {
		got, ok := impl.FirstStop(c.board, c.start, c.word)
		expectFailure(t, fmt.Sprintf("FirstStop %.80q", fmt.Sprint(c)), got, ok)
	}
}

func TestPromise2IsClosedWay(t *testing.T) {
	for _, word := range append(closedWords(), "") {
		got, ok := impl.IsClosedWay(word)
		expectEqual(t, fmt.Sprintf("IsClosedWay %q", word), got, true)
		expectEqual(t, "IsClosedWay succeeds", ok, true)
	}
	for _, word := range openWords() {
		got, ok := impl.IsClosedWay(word)
		expectEqual(t, "IsClosedWay "+word, got, false)
		expectEqual(t, "IsClosedWay succeeds", ok, true)
	}
	for _, word := range append(allWords(6), longestWords()...) {
		at := place{}
		for i := range len(word) {
			at.x += steps[word[i]].x
			at.y += steps[word[i]].y
		}
		got, ok := impl.IsClosedWay(word)
		expectEqual(t, fmt.Sprintf("IsClosedWay %q", word), got, at == place{})
		expectEqual(t, "IsClosedWay succeeds", ok, true)
	}
	for _, word := range append(wrongWords(), strings.Repeat("ns", 31), "nxs", "x", "NS", "ns ") {
		got, ok := impl.IsClosedWay(word)
		expectFailure(t, fmt.Sprintf("IsClosedWay %.80q", word), got, ok)
	}
}

func TestPromise2TurnOfWay(t *testing.T) {
	first := map[matrix]string{}
	for _, word := range allWords(5) {
		if _, found := first[matrixOfWord(word)]; !found {
			first[matrixOfWord(word)] = word
		}
	}
	for _, word := range append(closedWords(), "") {
		got, ok := impl.TurnOfWay(word)
		expectEqual(t, fmt.Sprintf("TurnOfWay %q", word), got, first[matrixOfWord(word)])
		expectEqual(t, "TurnOfWay succeeds", ok, true)
		expectEqual(t, fmt.Sprintf("rolls of TurnOfWay %q modulo 2", word), len(got)%2, 0)
	}
	for _, word := range allWords(6) {
		got, ok := impl.TurnOfWay(word)
		if closed, _ := impl.IsClosedWay(word); closed {
			expectEqual(t, fmt.Sprintf("TurnOfWay %q", word), got, first[matrixOfWord(word)])
			expectEqual(t, "TurnOfWay succeeds", ok, true)
			continue
		}
		expectFailure(t, "TurnOfWay "+word, got, ok)
	}
	got, ok := impl.TurnOfWay("nesw")
	expectEqual(t, "rolls of TurnOfWay nesw", len(got), 2)
	expectEqual(t, "TurnOfWay succeeds", ok, true)
	for _, word := range slices.Concat(openWords(), wrongWords(), []string{strings.Repeat("ns", 31), strings.Repeat("nesw", 16), "nxs", "x"}) {
		got, ok := impl.TurnOfWay(word)
		expectFailure(t, fmt.Sprintf("TurnOfWay %.80q", word), got, ok)
	}
}

func TestPromise2IsEvenDie(t *testing.T) {
	for text, want := range map[string]bool{"123456": true, "413652": false, "521463": false, "643251": true, "436512": true, "152346": false, "145236": true} {
		got, ok := impl.IsEvenDie(die("123456"), die(text))
		expectEqual(t, "IsEvenDie 123456 "+text, got, want)
		expectEqual(t, "IsEvenDie succeeds", ok, true)
	}
	closed := closedTurns()
	expectEqual(t, "turns of closed ways", len(closed), 12)
	for _, d := range differentDice() {
		even := 0
		for _, m := range rotations() {
			e := movedDie(d, m)
			got, ok := impl.IsEvenDie(d, e)
			word, want := closed[m]
			expectEqual(t, fmt.Sprint("IsEvenDie ", d, e), got, want)
			expectEqual(t, fmt.Sprint("IsEvenDie by exchanges ", d, e), got, isEvenExchange(d, e))
			expectEqual(t, "IsEvenDie succeeds", ok, true)
			if got {
				rolled, _ := impl.RollWord(d, word)
				isClosed, fine := impl.IsClosedWay(word)
				expectEqual(t, "the die behind the closed way "+word, rolled, e)
				expectEqual(t, "IsClosedWay "+word, isClosed && fine, true)
				even++
			}
		}
		expectEqual(t, fmt.Sprint("even ones of ", d), even, 12)
	}
	for _, word := range append(closedWords(), "") {
		for _, d := range differentDice() {
			e, _ := impl.RollWord(d, word)
			got, ok := impl.IsEvenDie(d, e)
			expectEqual(t, "IsEvenDie behind the closed way "+word, got, true)
			expectEqual(t, "IsEvenDie succeeds", ok, true)
		}
	}
}

// pairsWithoutEven returns dice for which IsEvenDie fails: no rolls make one of the other, faces are equal, or it is no die.
func pairsWithoutEven() [][2]impl.Die {
	var pairs [][2]impl.Die
	for _, d := range differentDice() {
		mirrored := movedDie(d, matrix{{-1, 0, 0}, {0, 1, 0}, {0, 0, 1}})
		for _, e := range waysInSpace(mirrored) {
			pairs = append(pairs, [2]impl.Die{d, e}, [2]impl.Die{e, d})
		}
	}
	for _, d := range equalFaced() {
		for _, e := range append(waysInSpace(d), die("123456"), die("000000")) {
			pairs = append(pairs, [2]impl.Die{d, e}, [2]impl.Die{e, d})
		}
	}
	for _, d := range wrongDice() {
		for _, e := range []impl.Die{d, die("123456"), die("000000"), {}, movedDie(d, rollMatrices['n'])} {
			pairs = append(pairs, [2]impl.Die{d, e}, [2]impl.Die{e, d})
		}
	}
	return append(pairs, [2]impl.Die{die("123456"), die("012345")}, [2]impl.Die{die("123456"), die("123457")}, [2]impl.Die{die("123456"), die("987654")})
}

func TestPromise2IsEvenDieFails(t *testing.T) {
	for _, pair := range pairsWithoutEven() {
		got, ok := impl.IsEvenDie(pair[0], pair[1])
		expectFailure(t, fmt.Sprint("IsEvenDie ", pair), got, ok)
	}
}

func TestPromise2ParityOfState(t *testing.T) {
	for _, d := range differentDice() {
		for _, e := range waysInSpace(d) {
			for y := range 7 {
				for x := range 7 {
					want := (x + y) % 2
					if !isEvenExchange(d, e) {
						want = 1 - want
					}
					got, ok := impl.ParityOfState(impl.State{X: x, Y: y, Die: e}, d)
					expectEqual(t, fmt.Sprint("ParityOfState ", x, y, e, d), got, want)
					expectEqual(t, "ParityOfState succeeds", ok, true)
				}
			}
		}
	}
	for text, want := range map[string]int{"123456": 0, "413652": 1, "643251": 0} {
		got, ok := impl.ParityOfState(state(0, 0, text), die("123456"))
		expectEqual(t, "ParityOfState 0 0 "+text, got, want)
		expectEqual(t, "ParityOfState succeeds", ok, true)
	}
}

func TestPromise2ParityOfStateFails(t *testing.T) {
	for _, pair := range pairsWithoutEven() {
		got, ok := impl.ParityOfState(impl.State{X: 3, Y: 2, Die: pair[0]}, pair[1])
		expectFailure(t, fmt.Sprint("ParityOfState ", pair), got, ok)
	}
	for _, text := range []string{"123456", "413652"} {
		for _, number := range []int{math.MinInt, -7, -2, -1, 7, 8, 36, 256, math.MaxInt - 1, math.MaxInt} {
			for _, at := range []place{{number, 0}, {0, number}, {number, number}, {number, 6}, {6, number}} {
				got, ok := impl.ParityOfState(state(at.x, at.y, text), die("123456"))
				expectFailure(t, fmt.Sprint("ParityOfState ", at), got, ok)
			}
		}
	}
}

func TestPromise2ParityNeverChanges(t *testing.T) {
	for _, b := range sampleBoards() {
		for _, start := range startsOn(b) {
			start.Die = die("123546")
			want, ok := impl.ParityOfState(start, start.Die)
			expectEqual(t, "ParityOfState succeeds", ok, true)
			moves := planOf(b).moves(start)
			if moves == "" {
				continue
			}
			way, ok := impl.StatesAlong(b, start, planOf(b).longWalk(start, 60))
			expectEqual(t, "states along the longest word", len(way), 61)
			for _, s := range way {
				got, fine := impl.ParityOfState(s, start.Die)
				expectEqual(t, fmt.Sprintf("parity behind rolls on %q %v", b, s), got, want)
				expectEqual(t, "ParityOfState succeeds", ok && fine, true)
			}
		}
	}
}

func TestPromise2TurnBoard(t *testing.T) {
	for b, want := range map[string]string{".": ".", "#": "#", ".#": "./#", "./#": "#.", "#./..": ".#/..", ".../.#.": "../#./..", "..#/.../#..": "#../.../..#", ".##.": "./#/#/."} {
		got, ok := impl.TurnBoard(b)
		expectEqual(t, "TurnBoard "+b, got, want)
		expectEqual(t, "TurnBoard succeeds", ok, true)
	}
	for _, b := range sampleBoards() {
		turned, ok := impl.TurnBoard(b)
		expectEqual(t, "TurnBoard succeeds", ok && impl.IsBoard(turned), true)
		cells, turnedCells := planOf(b), planOf(turned)
		expectEqual(t, "cells of TurnBoard "+b, len(turnedCells), len(cells))
		for at, isFloor := range cells {
			got, found := turnedCells[place{cells.rows() - 1 - at.y, at.x}]
			expectEqual(t, fmt.Sprintf("cell %v of TurnBoard %q", at, b), found && got == isFloor, true)
		}
		for range 3 {
			turned, _ = impl.TurnBoard(turned)
		}
		expectEqual(t, "TurnBoard four times", turned, b)
	}
	for _, b := range wrongBoards() {
		got, ok := impl.TurnBoard(b)
		expectFailure(t, fmt.Sprintf("TurnBoard %.60q", b), got, ok)
	}
}

func TestPromise2TurnState(t *testing.T) {
	got, ok := impl.TurnState(".../.#.", state(2, 0, "123456"))
	expectEqual(t, "TurnState 2 0", got, state(1, 2, "152346"))
	expectEqual(t, "TurnState succeeds", ok, true)
	for _, b := range sampleBoards() {
		for _, s := range startsOn(b) {
			got, ok := impl.TurnState(b, s)
			want := impl.State{X: planOf(b).rows() - 1 - s.Y, Y: s.X, Die: movedDie(s.Die, quarter)}
			expectEqual(t, fmt.Sprintf("TurnState %q %v", b, s), got, want)
			expectEqual(t, "TurnState succeeds", ok, true)
		}
		for _, s := range statesOff(b) {
			got, ok := impl.TurnState(b, s)
			expectFailure(t, fmt.Sprintf("TurnState %q %v", b, s), got, ok)
		}
	}
	for _, b := range wrongBoards() {
		got, ok := impl.TurnState(b, state(0, 0, "123456"))
		expectFailure(t, fmt.Sprintf("TurnState %.60q", b), got, ok)
	}
}

func TestPromise2TurnedRollsAreTheSame(t *testing.T) {
	for _, c := range walkCases() {
		if !c.isWhole() {
			continue
		}
		board, _ := impl.TurnBoard(c.board)
		start, _ := impl.TurnState(c.board, c.start)
		word, _ := impl.TurnRolls(c.word)
		want, _ := impl.TurnState(c.board, c.way[len(c.word)])
		got, ok := impl.RollAlong(board, start, word)
		expectEqual(t, fmt.Sprint("turned and rolled along ", c.board, c.start, c.word), got, want)
		expectEqual(t, "RollAlong succeeds", ok, true)
	}
}

func TestPromise2TurnRolls(t *testing.T) {
	for word, want := range map[string]string{"": "", "n": "e", "e": "s", "s": "w", "w": "n", "nesw": "eswn", "nnew": "eesn"} {
		got, ok := impl.TurnRolls(word)
		expectEqual(t, "TurnRolls "+word, got, want)
		expectEqual(t, "TurnRolls succeeds", ok, true)
	}
	next := strings.NewReplacer("n", "e", "e", "s", "s", "w", "w", "n")
	for _, word := range append(allWords(5), longestWords()...) {
		got, ok := impl.TurnRolls(word)
		expectEqual(t, "TurnRolls "+word, got, next.Replace(word))
		expectEqual(t, "TurnRolls succeeds", ok, true)
	}
	for _, word := range wrongWords() {
		got, ok := impl.TurnRolls(word)
		expectFailure(t, fmt.Sprintf("TurnRolls %.80q", word), got, ok)
	}
}
