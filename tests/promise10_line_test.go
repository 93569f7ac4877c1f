package tests

import (
	"fmt"
	"slices"
	"strings"
	"testing"

	"loop.example/g01207/impl"
)

func TestPromise10Constants(t *testing.T) {
	expectEqual(t, "MaxScript", impl.MaxScript, 3000)
	expectEqual(t, "MaxLines", impl.MaxLines, 50)
}

func TestPromise10FirstDesk(t *testing.T) {
	expectEqual(t, "FirstDesk", impl.FirstDesk(), firstDesk())
	expectEqual(t, "FirstDesk is one", impl.IsDesk(impl.FirstDesk()), true)
}

func TestPromise10IsDesk(t *testing.T) {
	for _, d := range sampleDesks() {
		expectEqual(t, fmt.Sprint("IsDesk ", d), impl.IsDesk(d), true)
	}
	for _, b := range sampleBoards() {
		cells := planOf(b)
		for _, at := range cells.places() {
			expectEqual(t, fmt.Sprint("IsDesk ", b, at), impl.IsDesk(deskOn(b, at.x, at.y, "090807")), cells[at])
		}
	}
	for _, d := range wrongDesks() {
		expectEqual(t, fmt.Sprintf("IsDesk %.300v", d), impl.IsDesk(d), false)
	}
}

// Lines without an effect on the desk.
func TestPromise10Replies(t *testing.T) {
	square := deskOn("../..", 0, 0, "123456")
	alone := deskOn(".", 0, 0, "623451")
	parted := deskOn(".#.", 0, 0, "123456")
	equal := deskOn("...", 1, 0, "777777")
	for _, c := range []struct {
		desk    impl.Desk
		replies map[string]string
	}{
		{firstDesk(), map[string]string{
			"show": ".../.#.", "state": "0,0:123456", "can": "es", "tops e": "1,5", "tops ees": "1,5,6,2", "print ee": "631/.#.", "labels ee": "156/.#.", "reach": "5", "hard": "3", "least": "123456",
			"to 2 1 2": "ees", "to 1 0 5": "e", "to 0 0 1": "-", "at 0 0": "1", "at 2 1": "2", "at 1 1": "-", "cheap 2 1": "13 ees", "cheap 1 0": "5 e", "cheap 0 0": "0 -",
			"same n": "n", "same nn": "nn", "same ss": "nn", "same nnn": "s", "same nnnn": "-", "same ew": "-", "same eee": "w",
		}},
		{square, map[string]string{
			"show": "../..", "can": "es", "reach": "12", "hard": "6", "at 0 0": "1,2,5", "to 0 0 2": "senw", "to 0 0 5": "eswn", "to 1 1 2": "es", "to 1 1 1": "eswnes", "cheap 1 1": "7 es",
			"print eswn": "33/64", "print es": "63/.4", "labels es": "15/.2", "labels eswn": "no", "labels ew": "15/..", "tops eswn": "1,5,2,1,5",
		}},
		{alone, map[string]string{
			"show": ".", "state": "0,0:623451", "can": "-", "reach": "1", "hard": "0", "least": "125436", "at 0 0": "6", "to 0 0 6": "-", "to 0 0 1": "no", "cheap 0 0": "0 -",
			"print n": "no", "labels e": "no", "tops s": "no", "roll w": "no", "print ns": "no", "labels ew": "no",
		}},
		{parted, map[string]string{
			"can": "-", "reach": "1", "hard": "0", "at 2 0": "-", "at 1 0": "-", "at 0 0": "1", "at 3 0": "no", "to 2 0 1": "no", "to 1 0 1": "no", "cheap 2 0": "no", "cheap 1 0": "no",
		}},
		{equal, map[string]string{
			"can": "ew", "reach": "3", "hard": "1", "at 0 0": "7", "to 2 0 7": "e", "to 0 0 7": "w", "to 0 0 1": "no", "labels eww": "777", "print weew": "777", "tops ew": "7,7,7", "cheap 0 0": "7 w", "least": "777777",
		}},
	} {
		for line, want := range c.replies {
			expectLine(t, c.desk, line, c.desk, want)
		}
	}
}

// Lines with an effect on the desk: the reply is the state behind them.
func TestPromise10Effects(t *testing.T) {
	for _, c := range []struct {
		line  string
		desk  impl.Desk
		reply string
	}{
		{"board . 0 0", deskOn(".", 0, 0, "123456"), "0,0:123456"},
		{"board ../#. 1 1", deskOn("../#.", 1, 1, "123456"), "1,1:123456"},
		{"board .../.#. 0 1", deskOn(".../.#.", 0, 1, "123456"), "0,1:123456"},
		{"board .../.#. 0 0", firstDesk(), "0,0:123456"},
		{"board " + floorBoard(7, 5) + " 6 4", deskOn(floorBoard(7, 5), 6, 4, "123456"), "6,4:123456"},
		{"board " + floorBoard(6, 6) + " 5 0", deskOn(floorBoard(6, 6), 5, 0, "123456"), "5,0:123456"},
		{"board " + floorBoard(1, 7) + " 0 6", deskOn(floorBoard(1, 7), 0, 6, "123456"), "0,6:123456"},
		{"die 654321", deskOn(".../.#.", 0, 0, "654321"), "0,0:654321"},
		{"die 000000", deskOn(".../.#.", 0, 0, "000000"), "0,0:000000"},
		{"die 999999", deskOn(".../.#.", 0, 0, "999999"), "0,0:999999"},
		{"die 112211", deskOn(".../.#.", 0, 0, "112211"), "0,0:112211"},
		{"die 012345", deskOn(".../.#.", 0, 0, "012345"), "0,0:012345"},
		{"roll e", deskOn(".../.#.", 1, 0, "521463"), "1,0:521463"},
		{"roll ees", deskOn(".../.#.", 2, 1, "215634"), "2,1:215634"},
		{"roll s", deskOn(".../.#.", 0, 1, "263154"), "0,1:263154"},
		{"roll sn", firstDesk(), "0,0:123456"},
		{"roll " + strings.Repeat("ew", 30), firstDesk(), "0,0:123456"},
		{"turn", deskOn("../#./..", 1, 0, "152346"), "1,0:152346"},
	} {
		expectLine(t, firstDesk(), c.line, c.desk, c.reply)
	}
}

func TestPromise10FourTurns(t *testing.T) {
	d := firstDesk()
	for _, want := range []struct {
		desk  impl.Desk
		reply string
	}{
		{deskOn("../#./..", 1, 0, "152346"), "1,0:152346"},
		{deskOn(".#./...", 2, 1, "145236"), "2,1:145236"},
		{deskOn("../.#/..", 0, 2, "134526"), "0,2:134526"},
		{firstDesk(), "0,0:123456"},
	} {
		expectLine(t, d, "turn", want.desk, want.reply)
		d = want.desk
	}
	for _, d := range sampleDesks() {
		next := d
		for range 4 {
			next, _, _ = impl.DeskLine(next, "turn")
		}
		expectEqual(t, "turned four times", next, d)
	}
}

// Each line of the table is executed on each desk.
func TestPromise10LinesOnDesks(t *testing.T) {
	kinds := map[string]int{}
	for _, d := range sampleDesks() {
		for _, line := range linesOnDesk(d) {
			want, reply := lineOn(d, line)
			expectLine(t, d, line, want, reply)
			kind := "fine"
			switch reply {
			case "no", "-", "0 -":
				kind = reply
			}
			kinds[strings.Fields(line)[0]+" "+kind]++
		}
	}
	for _, kind := range []string{
		"board fine", "board no", "die fine", "roll fine", "roll no", "turn fine", "show fine", "state fine", "can fine", "can -", "tops fine", "tops no", "to fine", "to no", "to -", "at fine", "at no", "at -",
		"cheap fine", "cheap no", "cheap 0 -", "reach fine", "print fine", "print no", "labels fine", "labels no", "hard fine", "hard no", "least fine", "same fine", "same -",
	} {
		expectEqual(t, "lines are tried: "+kind, kinds[kind] > 0, true)
	}
}

// Words of more than MaxRolls rolls are not told, and neither is a length beyond it.
func TestPromise10LongWays(t *testing.T) {
	near, far := deskOn(longBoard, 0, 3, "123456"), deskOn(longBoard, 0, 4, "123456")
	expectLine(t, near, "to 5 2 2", near, solvedText(longestPuzzle).first)
	expectLine(t, far, "to 5 2 1", far, "no")
	expectLine(t, far, "hard", far, "no")
	long := 0
	for _, w := range wideWays() {
		d := impl.Desk{Board: w.board, State: w.start}
		for _, at := range planOf(d.Board).places() {
			if _, took, count := w.best(isOn(at), topPrice); count > 0 && took.rolls > 60 {
				expectLine(t, d, fmt.Sprint("cheap ", at.x, " ", at.y), d, "no")
				long++
			}
		}
	}
	expectEqual(t, "cheapest words are too long", long > 0, true)
}

func TestPromise10PrintsAndLabelsOfFullBoards(t *testing.T) {
	wide := deskOn(floorBoard(6, 6), 0, 0, "123456")
	rest := strings.Repeat("/......", 5)
	expectLine(t, wide, "print eeeee", wide, "631563"+rest)
	expectLine(t, wide, "labels eeeee", wide, "156315"+rest)
	over := strings.Repeat("eeeeeswwwwws", 3)
	over = over[:len(over)-1]
	for _, die := range []string{"123456", "000000", "987650"} {
		d := deskOn(floorBoard(6, 6), 0, 0, die)
		way := planOf(d.Board).walk(d.State, over)
		prints, _ := written(d.Board, way, bottomOf)
		labels, _ := written(d.Board, way, topOf)
		expectEqual(t, "cells without a sign", strings.Count(prints+labels, "."), 0)
		expectLine(t, d, "print "+over, d, prints)
		expectLine(t, d, "labels "+over, d, labels)
	}
}

func TestPromise10NoStates(t *testing.T) {
	for _, d := range []impl.Desk{firstDesk(), deskOn(".", 0, 0, "112233"), deskOn("../..", 1, 1, "987654")} {
		for _, line := range []string{
			"board # 0 0", "board .# 1 0", "board .../.#. 1 1", "board ##/## 0 1",
			"board . 1 0", "board . 0 1", "board .../.#. 3 0", "board .../.#. 0 2", "board .../.#. 1 2", "board ../../.. 2 1", "board ... 0 2",
			"board . 256 0", "board . 0 65536", "board . 999999 0", "board . 0 999999", "board . 999999 999999",
		} {
			expectLine(t, d, line, d, "no")
		}
	}
}

func TestPromise10NoWays(t *testing.T) {
	d := firstDesk()
	for _, word := range []string{"n", "w", "ss", "es", "eee", "een", "eesw", "sns" + strings.Repeat("n", 57), strings.Repeat("ew", 29) + "ww", strings.Repeat("e", 60)} {
		for _, command := range []string{"roll", "tops", "print", "labels"} {
			expectLine(t, d, command+" "+word, d, "no")
		}
	}
	for _, cell := range []string{"1 1", "3 0", "0 2", "3 1", "2 2", "1 3", "256 0", "0 256", "65536 0", "999999 0", "0 999999", "999999 999999"} {
		expectLine(t, d, "cheap "+cell, d, "no")
		for _, top := range []string{"0", "1", "5", "9", "10", "999999"} {
			expectLine(t, d, "to "+cell+" "+top, d, "no")
		}
		if cell != "1 1" {
			expectLine(t, d, "at "+cell, d, "no")
		}
	}
	for _, line := range []string{"to 0 0 0", "to 0 0 6", "to 0 0 10", "to 0 0 11", "to 0 0 257", "to 0 0 999999", "to 2 1 6", "to 2 1 12"} {
		expectLine(t, d, line, d, "no")
	}
}

// wrongLinesLike returns what comes of a line with too few or too many words, with other blanks, or with words in capitals.
func wrongLinesLike(line string) []string {
	words := strings.Split(line, " ")
	wrong := []string{
		" " + line, "  " + line, line + " ", line + "  ", "\t" + line, line + "\t", line + "\r", line + "\x00", line + "\u00a0", line + ";", "-" + line,
		strings.ToUpper(line), strings.ToUpper(line[:1]) + line[1:], line[:1] + strings.ToUpper(line[1:2]) + line[2:], strings.ToUpper(words[0]) + line[len(words[0]):],
		line + line, line + " " + line, "x" + line, line[1:], words[0] + "x" + line[len(words[0]):], words[0] + "s" + line[len(words[0]):], "x " + line, line + " #", line + " -",
	}
	for _, word := range append(words, "0", "1", "n", "123456", ".", "") {
		wrong = append(wrong, line+" "+word)
	}
	for i := range words {
		fewer := slices.Delete(slices.Clone(words), i, i+1)
		empty := slices.Clone(words)
		empty[i] = ""
		wrong = append(wrong, strings.Join(fewer, " "), strings.Join(empty, " "), strings.Join(words[:i], " "))
		for _, blank := range []string{"  ", "   ", "\t", " \t", ",", "", "\u00a0"} {
			if i > 0 {
				wrong = append(wrong, strings.Join(words[:i], " ")+blank+strings.Join(words[i:], " "))
			}
		}
	}
	return wrong
}

func TestPromise10WrongLines(t *testing.T) {
	lines := []string{"", " ", "  ", "-", "no", "what", "fly", "help", "exit", "x", "0", "Show", "shows", "sho", "s", "R", "B X Y", "roll R", "die D", "at X Y", "turn 1", "nesw", "123456", ".../.#.", "\r", "\t", "\x00", "\xff", "ü", "\u2028", "wurf"}
	for _, line := range rightLines() {
		lines = append(lines, wrongLinesLike(line)...)
	}
	for _, d := range []impl.Desk{firstDesk(), deskOn("../..", 1, 1, "987654")} {
		for _, line := range lines {
			expectLine(t, d, line, d, "what")
		}
	}
	for _, line := range rightLines() {
		want, reply := lineOn(firstDesk(), line)
		expectEqual(t, line+" succeeds", reply == "no" || reply == "what", false)
		expectLine(t, firstDesk(), line, want, reply)
	}
}

// wrongNumbers returns words that are no numbers of a line.
func wrongNumbers() []string {
	return []string{
		"", "1000000", "1000001", "9999999", "2147483648", "4294967296", "4294967297", "9223372036854775807", "9223372036854775808", "18446744073709551616", "18446744073709551617", "36893488147419103232", strings.Repeat("9", 300),
		"00", "01", "001", "0000000", "0000001", "0999999", "00999999", "-0", "-1", "+0", "+1", "--1", "-9223372036854775808", "0.0", "1.0", "1.", ".1", "1e0", "0e0", "1,0", "1_0", "0_0", "0x0", "0x1", "0b1", "0o1", "a", "x", "n", "#", "-", "1x", "x1", "１", "٣", "²", "1\t", "\t1", "1\r", "1\x00", "\xff",
	}
}

func TestPromise10Numbers(t *testing.T) {
	d := deskOn("../..", 0, 0, "123456")
	for _, line := range []string{"board ../.. # 0", "board ../.. 0 #", "to # 0 1", "to 0 # 1", "to 0 0 #", "at # 0", "at 0 #", "cheap # 0", "cheap 0 #"} {
		at := strings.LastIndex(line, "#")
		with := func(number string) string { return line[:at] + number + line[at+1:] }
		for _, number := range wrongNumbers() {
			expectLine(t, d, with(number), d, "what")
		}
		for _, number := range []string{"2", "3", "7", "9", "10", "36", "99", "100", "256", "1000", "65536", "100000", "999998", "999999"} {
			if strings.HasPrefix(line, "to 0 0") && number == "2" {
				continue
			}
			expectLine(t, d, with(number), d, "no")
		}
		for _, number := range []string{"0", "1"} {
			want, reply := lineOn(d, with(number))
			expectLine(t, d, with(number), want, reply)
		}
	}
}

// expectWhat checks that a line is none of the table: the reply is what, but a line with a newline or of too many bytes fails.
func expectWhat(t *testing.T, d impl.Desk, line string) {
	t.Helper()
	if strings.Contains(line, "\n") || len(line) > 3000 {
		expectNoLine(t, d, line)
		return
	}
	expectLine(t, d, line, d, "what")
}

func TestPromise10WrongWords(t *testing.T) {
	d := firstDesk()
	for _, b := range wrongBoards() {
		for _, at := range []string{"0 0", "1 0", "9 9"} {
			expectWhat(t, d, "board "+b+" "+at)
		}
	}
	for _, text := range []string{"", "1", "12345", "1234567", "123456123456", "12345x", "x23456", "-12345", "+12345", "12345-", "12.456", "1,2,3,4,5,6", "12345\xff", "１２３４５６", "０00000", "123 456", "12345\n", "123456\r", ":23456", "12345/", "abcdef", strings.Repeat("1", 5000)} {
		expectWhat(t, d, "die "+text)
	}
	for _, command := range []string{"roll", "tops", "print", "labels", "same"} {
		for _, word := range append(wrongWords(), "", "-", "R", "E", "eE", "east", "es-", "s,n") {
			expectWhat(t, d, command+" "+word)
		}
		walk := planOf(d.Board).longWalk(d.State, 61)
		expectWhat(t, d, command+" "+walk)
		want, reply := lineOn(d, command+" "+walk[:60])
		expectLine(t, d, command+" "+walk[:60], want, reply)
	}
}

// What is no line is told before what fails.
func TestPromise10WhatComesBeforeNo(t *testing.T) {
	d := firstDesk()
	for _, line := range []string{"board # 0 01", "board # 00 0", "board .x 5 5", "board .x 1000000 0", "board # 0 0 0", "board # 0", "roll n n", "roll nx", "tops n 1", "print nN", "labels n ", "to 9 9 01", "to 9 9", "to 1 1 1 1", "at 9 x", "at 9", "at 9 9 9", "cheap 1 1 1", "cheap 1", "cheap 9 09"} {
		expectLine(t, d, line, d, "what")
	}
}

// A line alone has at most MaxScript bytes and no newline.
func TestPromise10LimitsOfLines(t *testing.T) {
	for _, d := range []impl.Desk{firstDesk(), deskOn("../..", 1, 1, "987654")} {
		for _, sign := range []string{"x", " ", "n", "0", "\r", "\x00", "\xff", "."} {
			expectLine(t, d, strings.Repeat(sign, 3000), d, "what")
			expectNoLine(t, d, strings.Repeat(sign, 3001))
			expectNoLine(t, d, strings.Repeat(sign, 6000))
		}
		for _, line := range rightLines() {
			expectLine(t, d, line+strings.Repeat(" ", 3000-len(line)), d, "what")
			expectNoLine(t, d, line+strings.Repeat(" ", 3001-len(line)))
			for _, wrong := range []string{line + "\n", "\n" + line, line + "\n" + line, line + "\n\n", line[:1] + "\n" + line[1:], line + "\r\n", line + " \n"} {
				expectNoLine(t, d, wrong)
			}
		}
		for _, wrong := range []string{"\n", "\n\n", "x\n", "fly\n", " \n ", strings.Repeat("x", 2999) + "\n", strings.Repeat("x", 3000) + "\n", strings.Repeat("\n", 5000)} {
			expectNoLine(t, d, wrong)
		}
	}
}

func TestPromise10WrongDesks(t *testing.T) {
	for _, d := range wrongDesks() {
		for _, line := range append(rightLines(), "", "fly", "board . 0 0", "die 111111", "x\n", strings.Repeat("x", 3001)) {
			expectNoLine(t, d, line)
		}
	}
}
