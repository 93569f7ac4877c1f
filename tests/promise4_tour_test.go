package tests

import (
	"fmt"
	"slices"
	"strings"
	"testing"

	"loop.example/g01207/impl"
)

func TestPromise4LabelMoves(t *testing.T) {
	for _, c := range []struct {
		board string
		start impl.State
		want  string
	}{
		{"156/.#.", state(0, 0, "123456"), "es"}, {"156/2#.", state(0, 0, "123456"), "es"}, {"156/3#.", state(0, 0, "123456"), "e"}, {"146/3#.", state(0, 0, "123456"), ""}, {"256/.#.", state(0, 0, "123456"), ""},
		{".4./3.5/.2.", state(1, 1, "123456"), "nesw"}, {".4./315/.2.", state(1, 1, "123456"), "nesw"}, {".4./365/.2.", state(1, 1, "123456"), ""}, {".4./5.5/.2.", state(1, 1, "123456"), "nes"}, {".1./3.5/.2.", state(1, 1, "123456"), "esw"}, {".4./3.1/.1.", state(1, 1, "123456"), "nw"}, {".#./3.#/.2.", state(1, 1, "123456"), "sw"},
		{"...", state(1, 0, "123456"), "ew"}, {"3.5", state(1, 0, "123456"), "ew"}, {"5.3", state(1, 0, "123456"), ""}, {"1", state(0, 0, "123456"), ""}, {"2", state(0, 0, "123456"), ""}, {".", state(0, 0, "123456"), ""}, {"1#", state(0, 0, "123456"), ""},
	} {
		got, ok := impl.LabelMoves(c.board, c.start)
		expectEqual(t, fmt.Sprint("LabelMoves ", c.board, c.start), got, c.want)
		expectEqual(t, "LabelMoves succeeds", ok, true)
	}
	for _, c := range sheetCases() {
		got, ok := impl.LabelMoves(c.board, c.start)
		expectEqual(t, fmt.Sprint("LabelMoves ", c.board, c.start), got, c.moves(c.start))
		expectEqual(t, "LabelMoves succeeds", ok, true)
	}
}

func TestPromise4RollOverLabels(t *testing.T) {
	for _, c := range []struct {
		board, word string
		want        impl.State
	}{
		{"156/.#.", "", state(0, 0, "123456")}, {"156/.#.", "e", state(1, 0, "521463")}, {"156/.#.", "ee", state(2, 0, "625431")}, {"156/.#.", "ewewee", state(2, 0, "625431")}, {"156/.#.", "ees", state(2, 1, "215634")}, {"156/.#.", "s", state(0, 1, "263154")},
		{"...", "e", state(1, 0, "521463")}, {"..6", "ee", state(2, 0, "625431")}, {"1", "", state(0, 0, "123456")}, {".", "", state(0, 0, "123456")},
		{"256/.#.", "", impl.State{}}, {"256/.#.", "e", impl.State{}}, {"166/.#.", "e", impl.State{}}, {"166/.#.", "ee", impl.State{}}, {"155/.#.", "ee", impl.State{}}, {"166/.#.", "", state(0, 0, "123456")}, {"156/.#.", "n", impl.State{}}, {"156/.#.", "es", impl.State{}}, {"156/.#.", "eee", impl.State{}},
	} {
		got, ok := impl.RollOverLabels(c.board, state(0, 0, "123456"), c.word)
		expectEqual(t, fmt.Sprint("RollOverLabels ", c.board, c.word), got, c.want)
		expectEqual(t, "RollOverLabels succeeds", ok, c.want != impl.State{})
	}
	over, stopped := 0, 0
	for i, c := range sheetCases() {
		words := append(allWords(2), longestWords()...)
		if c.floor.moves(c.start) != "" {
			words = append(words, c.floor.longWalk(c.start, 3+i%57))
		}
		for _, word := range words {
			what := fmt.Sprint("RollOverLabels ", c.board, c.start, word)
			got, ok := impl.RollOverLabels(c.board, c.start, word)
			way := c.over(c.start, word)
			if len(way) != len(word)+1 {
				expectFailure(t, what, got, ok)
				stopped++
				continue
			}
			expectEqual(t, what, got, way[len(way)-1])
			expectEqual(t, what+" succeeds", ok, true)
			over++
		}
	}
	expectEqual(t, "words over labels, and others, are tried", over > 1000 && stopped > 1000, true)
}

// The labels of a word let it be rolled, and not if one of them is another one.
func TestPromise4LabelsOfWordsLetThemBeRolled(t *testing.T) {
	count := 0
	for i, c := range walkCases() {
		b, ok := impl.LabelsOfWord(c.board, c.start, c.word)
		if !ok || i%7 != 0 {
			continue
		}
		got, ok := impl.RollOverLabels(b, c.start, c.word)
		expectEqual(t, fmt.Sprint("RollOverLabels of LabelsOfWord ", c.board, c.start, c.word), got, c.way[len(c.way)-1])
		expectEqual(t, "RollOverLabels succeeds", ok, true)
		floor, ok := impl.FloorOfLabels(b)
		expectEqual(t, "FloorOfLabels of LabelsOfWord", floor, c.board)
		expectEqual(t, "FloorOfLabels succeeds", ok, true)
		for _, at := range digit.FindAllStringIndex(b, -1) {
			other := b[:at[0]] + string('0'+(b[at[0]]-'0'+1)%10) + b[at[1]:]
			got, ok := impl.RollOverLabels(other, c.start, c.word)
			expectFailure(t, fmt.Sprint("RollOverLabels with another label ", other, c.start, c.word), got, ok)
			count++
		}
	}
	expectEqual(t, "other labels are tried", count > 1000, true)
}

func TestPromise4RollOverLabelsOfMaxRolls(t *testing.T) {
	for _, b := range strings.Fields("15 .5 1. ..") {
		got, ok := impl.RollOverLabels(b, state(0, 0, "123456"), strings.Repeat("ew", 30))
		expectEqual(t, "RollOverLabels of MaxRolls rolls "+b, got, state(0, 0, "123456"))
		expectEqual(t, "RollOverLabels succeeds", ok, true)
		got, ok = impl.RollOverLabels(b, state(0, 0, "123456"), strings.Repeat("ew", 30)+"e")
		expectFailure(t, "RollOverLabels of one roll more "+b, got, ok)
	}
	got, ok := impl.RollOverLabels("156", state(0, 0, "123456"), strings.Repeat("eeww", 14)+"ewee")
	expectEqual(t, "RollOverLabels of MaxRolls rolls", got, state(2, 0, "625431"))
	expectEqual(t, "RollOverLabels succeeds", ok, true)
	got, ok = impl.RollOverLabels("155", state(0, 0, "123456"), strings.Repeat("ew", 29)+"ee")
	expectFailure(t, "RollOverLabels that does not match behind the last of MaxRolls rolls", got, ok)
}

func TestPromise4RollOverLabelsOfTextsThatAreNoWords(t *testing.T) {
	for _, b := range strings.Fields("156/.#. .../.#. 1") {
		for _, word := range wrongWords() {
			got, ok := impl.RollOverLabels(b, state(0, 0, "123456"), word)
			expectFailure(t, fmt.Sprintf("RollOverLabels %s %.80q", b, word), got, ok)
		}
	}
}

func TestPromise4CountOverLabels(t *testing.T) {
	for _, c := range []struct {
		board string
		start impl.State
		want  int
	}{
		{"156/.#.", state(0, 0, "123456"), 5}, {"156/3#.", state(0, 0, "123456"), 4}, {"1.6/3#2", state(0, 0, "123456"), 4}, {"155/.#.", state(0, 0, "123456"), 3}, {"146/3#.", state(0, 0, "123456"), 1}, {"256/.#.", state(0, 0, "123456"), 0},
		{"1", state(0, 0, "123456"), 1}, {"2", state(0, 0, "123456"), 0}, {".", state(0, 0, "123456"), 1}, {"1#.", state(0, 0, "123456"), 1}, {"../..", state(0, 0, "123456"), 12}, {"1./..", state(0, 0, "123456"), 7}, {"00/00", state(1, 1, "000000"), 4}, {floorBoard(6, 6), state(0, 0, "123456"), 432}, {"0" + floorBoard(6, 6)[1:], state(5, 5, "000000"), 36}, {"1" + floorBoard(6, 6)[1:], state(5, 5, "000000"), 35},
	} {
		got, ok := impl.CountOverLabels(c.board, c.start)
		expectEqual(t, fmt.Sprint("CountOverLabels ", c.board, c.start), got, c.want)
		expectEqual(t, "CountOverLabels succeeds", ok, true)
	}
	for i, c := range sheetCases() {
		want := 0
		if c.matches(c.start) {
			want = len(c.web(c.start).states)
		}
		got, ok := impl.CountOverLabels(c.board, c.start)
		expectEqual(t, fmt.Sprint("CountOverLabels ", c.board, c.start), got, want)
		expectEqual(t, "CountOverLabels succeeds", ok, true)
		if i%5 == 0 {
			free, ok := impl.CountReached(floorOf(c.board), c.start)
			expectEqual(t, fmt.Sprint("labels only take states away ", c.board, c.start), ok && got <= free && (len(c.labels) > 0 || got == free), true)
		}
	}
}

func TestPromise4WayOverLabels(t *testing.T) {
	for _, c := range []struct {
		board string
		at    place
		want  string
	}{
		{"156/.#.", place{0, 0}, ""}, {"156/.#.", place{1, 0}, "e"}, {"156/.#.", place{2, 0}, "ee"}, {"156/.#.", place{2, 1}, "ees"}, {"1../...", place{2, 1}, "ees"}, {"1.5/...", place{2, 1}, "ese"}, {"16./...", place{2, 1}, "see"}, {"1../2..", place{2, 1}, "ees"},
		{floorBoard(6, 6), place{5, 5}, "eeeeesssss"}, {"../..", place{1, 1}, "es"}, {".9/..", place{1, 1}, "se"}, {"1/.", place{0, 1}, "s"},
	} {
		got, ok := impl.WayOverLabels(c.board, state(0, 0, "123456"), c.at.x, c.at.y)
		expectEqual(t, fmt.Sprint("WayOverLabels ", c.board, c.at), got, c.want)
		expectEqual(t, "WayOverLabels succeeds", ok, true)
	}
	several, missing := 0, 0
	for _, c := range sheetCases() {
		if !c.matches(c.start) {
			continue
		}
		w := c.web(c.start)
		for _, at := range w.cells() {
			what := fmt.Sprint("WayOverLabels ", c.board, c.start, at)
			want, _, count := w.best(isOn(at), noPrice)
			got, ok := impl.WayOverLabels(c.board, c.start, at.x, at.y)
			if count == 0 {
				expectFailure(t, what, got, ok)
				missing++
				continue
			}
			expectEqual(t, what, got, want)
			expectEqual(t, what+" succeeds", ok, true)
			behind, ok := impl.RollOverLabels(c.board, c.start, got)
			expectEqual(t, "the state behind "+what, ok && isOn(at)(behind), true)
			if count > 1 {
				several++
			}
		}
	}
	expectEqual(t, "cells with several shortest words, and without one, are tried", several > 100 && missing > 100, true)
}

// No word leads to walls, to other labels, behind both, and anywhere if the state does not match.
func TestPromise4WayOverLabelsWithoutAWord(t *testing.T) {
	for _, c := range []struct {
		board string
		at    place
	}{
		{"1#", place{1, 0}}, {"1#.", place{2, 0}}, {"12", place{1, 0}}, {"12.", place{2, 0}}, {"15/3#", place{0, 1}}, {"1/3/.", place{0, 2}}, {"155", place{2, 0}},
		{"2", place{0, 0}}, {"2.", place{0, 0}}, {"2.", place{1, 0}}, {"25/..", place{1, 1}},
	} {
		got, ok := impl.WayOverLabels(c.board, state(0, 0, "123456"), c.at.x, c.at.y)
		expectFailure(t, fmt.Sprint("WayOverLabels ", c), got, ok)
	}
	for _, c := range sheetCases() {
		if c.matches(c.start) {
			continue
		}
		for _, at := range c.floor.places() {
			got, ok := impl.WayOverLabels(c.board, c.start, at.x, at.y)
			expectFailure(t, fmt.Sprint("WayOverLabels without a match ", c.board, c.start, at), got, ok)
		}
	}
}

func TestPromise4WayOverLabelsToCellsThatAreNone(t *testing.T) {
	for i, c := range sheetCases() {
		for _, at := range wrongCells(floorOf(c.board)) {
			if _, found := c.floor[at]; found || i%6 != 0 {
				continue
			}
			got, ok := impl.WayOverLabels(c.board, c.start, at.x, at.y)
			expectFailure(t, fmt.Sprint("WayOverLabels ", c.board, c.start, at), got, ok)
		}
	}
}

func TestPromise4WayOverLabelsOfMaxRolls(t *testing.T) {
	for _, c := range []struct {
		board string
		start impl.State
		at    place
		rolls int
	}{
		{"#...../..#..#/.####2/.#..../.#.##./......", state(0, 3, "123456"), place{5, 2}, 60},
		{"#...../..#..#/.####1/.#..../.#.##./......", state(0, 4, "123456"), place{5, 2}, 61},
		{"..#1../..#.#./.####./.#..../.#.##./......", state(5, 0, "123456"), place{3, 0}, 60},
		{"..#1../..#.#./.####./.#..../.#.##./......", state(5, 0, "123456"), place{3, 1}, 61},
		{"#...../..#..#/.####2/.#..../.#.##./......", state(5, 3, "123456"), place{5, 2}, 69},
	} {
		sh := sheetOf(c.board)
		want, took, _ := sh.web(c.start).best(isOn(c.at), noPrice)
		expectEqual(t, fmt.Sprint("the rolls of ", c), took.rolls, c.rolls)
		got, ok := impl.WayOverLabels(c.board, c.start, c.at.x, c.at.y)
		if c.rolls > 60 {
			expectFailure(t, fmt.Sprint("WayOverLabels of more than MaxRolls rolls ", c), got, ok)
		} else {
			expectEqual(t, fmt.Sprint("WayOverLabels of MaxRolls rolls ", c), got, want)
			expectEqual(t, "WayOverLabels succeeds", ok, true)
		}
		count, ok := impl.CountOverLabels(c.board, c.start)
		expectEqual(t, "CountOverLabels of so long ways", count, len(sh.web(c.start).states))
		expectEqual(t, "CountOverLabels succeeds", ok, true)
	}
}

func TestPromise4Tours(t *testing.T) {
	for _, c := range []struct {
		board string
		start impl.State
		first string
		count int
	}{
		{"156/.#.", state(0, 0, "123456"), "ee", 1}, {"156/.#.", state(2, 0, "625431"), "ww", 1}, {"1", state(0, 0, "123456"), "", 1}, {"..1", state(2, 0, "123456"), "", 1}, {"15/..", state(0, 0, "123456"), "e", 1},
		{"00/00", state(0, 0, "000000"), "esw", 2}, {"00/00", state(1, 1, "000000"), "nws", 2}, {"00/00", state(1, 0, "000000"), "swn", 2},
		{"000/000/000", state(0, 0, "000000"), "eesswnws", 8}, {"000/000/000", state(1, 1, "000000"), "nesswwnn", 8}, {"000", state(0, 0, "000000"), "ee", 1}, {".../000", state(2, 1, "000000"), "ww", 1},
		{"000/0#0/000", state(0, 0, "000000"), "eesswwn", 2}, {"000/0.0/000", state(1, 0, "000000"), "esswwnn", 2}, {"7#77/7777", state(0, 0, "777777"), "seenes", 2}, {"7#77/7777", state(3, 0, "777777"), "", 0}, {"7#77/7777", state(2, 0, "777777"), "eswwwn", 1},
	} {
		expectTours(t, c.board, c.start, c.first, c.count)
	}
	for _, c := range slices.Concat(tourCases(), sheetCases()) {
		if len(c.labels) <= 12 {
			expectAllTours(t, c, c.tours(c.start))
		}
	}
}

// expectTours checks the first tour from a state, empty also if there is none, and the number of tours.
func expectTours(t *testing.T, b string, s impl.State, first string, count int) {
	t.Helper()
	tour, ok := impl.TourOf(b, s)
	expectEqual(t, fmt.Sprint("TourOf ", b, s), tour, first)
	expectEqual(t, fmt.Sprint("TourOf succeeds ", b, s), ok, count > 0)
	counted, ok := impl.CountTours(b, s)
	expectEqual(t, fmt.Sprint("CountTours ", b, s), counted, count)
	expectEqual(t, "CountTours succeeds", ok, true)
}

// expectAllTours checks that the tours from a state are those of a list.
func expectAllTours(t *testing.T, c sheetCase, tours []string) {
	t.Helper()
	first := ""
	if len(tours) > 0 {
		first = tours[0]
	}
	expectTours(t, c.board, c.start, first, len(tours))
}

// All words of the right length are tried on boards of few labels.
func TestPromise4AllWordsAsTours(t *testing.T) {
	tried := 0
	for _, c := range tourCases() {
		if len(c.labels) > 6 {
			continue
		}
		tours := slices.DeleteFunc(allWords(max(len(c.labels)-1, 0)), func(word string) bool { return !c.isTour(c.start, word) })
		expectAllTours(t, c, tours)
		tried++
	}
	expectEqual(t, "boards of few labels are tried", tried > 100, true)
}

// A tour comes to each label once, can be rolled over labels, and has them as its own; backwards it is a tour as well.
func TestPromise4ToursComeToEachLabelOnce(t *testing.T) {
	count := 0
	for _, c := range tourCases() {
		word, ok := impl.TourOf(c.board, c.start)
		if !ok {
			continue
		}
		count++
		what := fmt.Sprint(c.board, c.start, word)
		expectEqual(t, "isTour "+what, c.isTour(c.start, word), true)
		end, ok := impl.RollOverLabels(c.board, c.start, word)
		expectEqual(t, "a tour is rolled over labels "+what, ok, true)
		labelled, ok := impl.LabelsOfWord(floorOf(c.board), c.start, word)
		expectEqual(t, "LabelsOfWord of a tour "+what, labelled, c.board)
		expectEqual(t, "LabelsOfWord succeeds", ok, true)
		back, _ := impl.BackWord(word)
		expectEqual(t, "the way back is a tour "+what, c.isTour(end, back), true)
		tours, ok := impl.CountTours(c.board, end)
		expectEqual(t, "CountTours at the end "+what, tours > 0 && ok, true)
	}
	expectEqual(t, "tours are tried", count > 100, true)
}

// There are no tours from a cell without a label, from a state that does not match, and over no labels.
func TestPromise4NoTours(t *testing.T) {
	for _, c := range []struct {
		board string
		start impl.State
	}{
		{"156/.#.", state(0, 1, "123456")}, {".56/...", state(0, 0, "123456")}, {".00", state(0, 0, "000000")}, {"0.0", state(0, 0, "000000")}, {"0.0", state(1, 0, "000000")}, {"0#0", state(2, 0, "000000")},
		{"256/.#.", state(0, 0, "123456")}, {"2", state(0, 0, "123456")}, {"156/.#.", state(0, 0, "165432")}, {".", state(0, 0, "123456")}, {floorBoard(6, 6), state(3, 3, "123456")}, {"..#", state(0, 0, "000000")}, {"000/.0.", state(1, 0, "000000")}, {"000/.0.", state(0, 0, "000000")}, {"000", state(1, 0, "000000")},
	} {
		expectTours(t, c.board, c.start, "", 0)
	}
}

func TestPromise4ToursOfMaxTourCells(t *testing.T) {
	for _, c := range []struct {
		board string
		start impl.State
		first string
		count int
	}{
		{"000000/000000", state(0, 0, "000000"), "eeeeeswwwww", 6}, {"000000./000000.", state(0, 0, "000000"), "eeeeeswwwww", 6}, {"......./000000#/000000.", state(5, 2, "000000"), "nwswnwswnws", 6},
		{"0000/0000/0000", state(0, 0, "000000"), "eeesswnwswn", 17}, {"00000/00000/00...", state(0, 0, "000000"), "eeeeswwwswn", 6}, {"00000/00000/00...", state(2, 1, "000000"), "eenwwwsswnn", 5}, {"00000/00000/.0.0.", state(1, 1, "000000"), "", 0},
		{"156315/126412", state(0, 0, "123456"), "eeeeeswwwww", 1}, {"156315./126412.", state(0, 1, "153624"), "", 0},
	} {
		expectTours(t, c.board, c.start, c.first, c.count)
	}
}

// With more than MaxTourCells labels nothing is told of tours, not even that there are none.
func TestPromise4ToursOfMoreThanMaxTourCells(t *testing.T) {
	withTour := 0
	for _, b := range crowdedBoards() {
		for _, text := range []string{"123456", "000000"} {
			for _, s := range startsOn(floorOf(b)) {
				s.Die = die(text)
				tour, ok := impl.TourOf(b, s)
				expectFailure(t, fmt.Sprint("TourOf ", b, s), tour, ok)
				count, ok := impl.CountTours(b, s)
				expectFailure(t, fmt.Sprint("CountTours ", b, s), count, ok)
			}
			starts, ok := impl.StartsOfLabels(b, die(text))
			expectNoList(t, fmt.Sprint("StartsOfLabels ", b, text), starts, ok)
		}
		if len(sheetOf(b).labels) == 13 && slices.ContainsFunc([]string{"123456", "000000"}, func(text string) bool { return len(sheetOf(b).tours(state(0, 0, text))) > 0 }) {
			withTour++
		}
	}
	expectEqual(t, "boards with a tour over one label more are tried", withTour > 3, true)
}

func TestPromise4StartsOfLabels(t *testing.T) {
	for _, c := range []struct {
		board, text string
		want        []impl.State
	}{
		{"156/.#.", "123456", []impl.State{state(0, 0, "123456"), state(2, 0, "625431")}},
		{"156/.#.", "625431", []impl.State{state(0, 0, "123456"), state(2, 0, "625431")}},
		{"156/.#.", "123546", []impl.State{state(0, 0, "142356"), state(2, 0, "645321")}}, {"156/.#.", "163452", nil}, {"7", "123456", nil}, {".../.#.", "123456", nil}, {".", "000000", nil}, {"#", "000000", nil}, {floorBoard(6, 6), "123456", nil}, {"0.0", "000000", nil},
		{"1", "123456", []impl.State{state(0, 0, "123456"), state(0, 0, "134526"), state(0, 0, "145236"), state(0, 0, "152346")}},
		{"..6", "123456", []impl.State{state(2, 0, "625431"), state(2, 0, "632541"), state(2, 0, "643251"), state(2, 0, "654321")}},
		{"0", "000000", []impl.State{state(0, 0, "000000")}},
		{"00/00", "000000", []impl.State{state(0, 0, "000000"), state(1, 0, "000000"), state(0, 1, "000000"), state(1, 1, "000000")}},
		{"000/000/000", "000000", []impl.State{state(0, 0, "000000"), state(2, 0, "000000"), state(1, 1, "000000"), state(0, 2, "000000"), state(2, 2, "000000")}},
		{"11", "111111", []impl.State{state(0, 0, "111111"), state(1, 0, "111111")}},
	} {
		got, ok := impl.StartsOfLabels(c.board, die(c.text))
		expectList(t, fmt.Sprint("StartsOfLabels ", c.board, c.text), got, ok, c.want)
	}
	cells, ways := 0, 0
	for i, c := range tourCases() {
		for k, d := range []impl.Die{c.start.Die, die("000001"), die("112233"), die("123456")} {
			if k > 0 && i%9 != k {
				continue
			}
			want := c.starts(d)
			got, ok := impl.StartsOfLabels(c.board, d)
			expectList(t, fmt.Sprint("StartsOfLabels ", c.board, d), got, ok, want)
			expectEqual(t, "StartsOfLabels are in order", slices.IsSortedFunc(got, inOrder), true)
			if len(want) > 1 && isOn(place{want[0].X, want[0].Y})(want[1]) {
				ways++
			} else if len(want) > 1 {
				cells++
			}
		}
	}
	expectEqual(t, "starts on several cells, and several on one cell, are tried", cells > 100 && ways > 10, true)
}

// The starts are those of all dice that rolls make: each of these has the same.
func TestPromise4StartsOfTurnedDice(t *testing.T) {
	for _, b := range strings.Fields("156/.#. 1 15 15/12 55/52") {
		for _, text := range []string{"123456", "521451"} {
			want, _ := impl.StartsOfLabels(b, die(text))
			for _, d := range waysInSpace(die(text)) {
				got, ok := impl.StartsOfLabels(b, d)
				expectList(t, fmt.Sprint("StartsOfLabels ", b, d), got, ok, want)
			}
		}
	}
}

func TestPromise4StartsOfLabelsFails(t *testing.T) {
	for _, b := range wrongLabelled() {
		for _, text := range []string{"123456", "000000"} {
			got, ok := impl.StartsOfLabels(b, die(text))
			expectNoList(t, fmt.Sprintf("StartsOfLabels %.60q", b), got, ok)
		}
	}
	for _, b := range strings.Fields("1 156/.#. . # 00/00") {
		for _, d := range wrongDice() {
			got, ok := impl.StartsOfLabels(b, d)
			expectNoList(t, fmt.Sprint("StartsOfLabels ", b, d), got, ok)
		}
	}
}

// A turned board with a turned die has the same matches, states and tours.
func TestPromise4TurnedLabels(t *testing.T) {
	for _, c := range slices.Concat(sheetCases(), tourCases()) {
		b, _ := impl.TurnLabelled(c.board)
		s, ok := impl.TurnState(floorOf(c.board), c.start)
		expectEqual(t, "TurnState succeeds", ok, true)
		for _, name := range []string{"MatchesHere", "CountOverLabels", "CountTours"} {
			want, could := sheetCalls[name](c.board, c.start)
			got, can := sheetCalls[name](b, s)
			expectEqual(t, fmt.Sprint(name, " turned ", c.board, c.start), got, want)
			expectEqual(t, "it succeeds as well", can, could)
		}
	}
}

// sheetCalls are the functions of a labelled board and a state, each made to tell its result as a text that is empty for a zero value.
var sheetCalls = map[string]func(b string, s impl.State) (string, bool){
	"MatchesHere":     toldOver(impl.MatchesHere),
	"LabelMoves":      impl.LabelMoves,
	"CountOverLabels": toldOver(impl.CountOverLabels),
	"TourOf":          impl.TourOf,
	"CountTours":      toldOver(impl.CountTours),
	"RollOverLabels": toldOver(func(b string, s impl.State) (impl.State, bool) {
		return impl.RollOverLabels(b, s, "")
	}),
	"RollOverLabels e": toldOver(func(b string, s impl.State) (impl.State, bool) {
		return impl.RollOverLabels(b, s, "e")
	}),
	"WayOverLabels": func(b string, s impl.State) (string, bool) {
		return impl.WayOverLabels(b, s, s.X, s.Y)
	},
	"WayOverLabels 0 0": func(b string, s impl.State) (string, bool) {
		return impl.WayOverLabels(b, s, 0, 0)
	},
}

func toldOver[T comparable](call func(b string, s impl.State) (T, bool)) func(b string, s impl.State) (string, bool) {
	return func(b string, s impl.State) (string, bool) {
		got, ok := call(b, s)
		return shown(got), ok
	}
}

func TestPromise4LabelledBoardsAndStatesThatAreNone(t *testing.T) {
	for name, call := range sheetCalls {
		for _, c := range wrongSheets() {
			got, ok := call(c.board, c.start)
			expectFailure(t, fmt.Sprintf("%s %.60q %v", name, c.board, c.start), got, ok)
		}
	}
}
