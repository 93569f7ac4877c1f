package tests

import (
	"fmt"
	"math"
	"slices"
	"strings"
	"testing"

	"loop.example/g01207/impl"
)

func TestPromise1Constants(t *testing.T) {
	expectEqual(t, "MaxFace", impl.MaxFace, 9)
	expectEqual(t, "MaxRolls", impl.MaxRolls, 60)
}

func TestPromise1IsDie(t *testing.T) {
	for _, d := range sampleDice() {
		expectEqual(t, fmt.Sprint("IsDie ", d), impl.IsDie(d), true)
	}
	for place := range 6 {
		for number := range 10 {
			faces := []int{1, 2, 3, 4, 5, 6}
			faces[place] = number
			expectEqual(t, fmt.Sprint("IsDie ", faces), impl.IsDie(dieOf(faces)), true)
		}
	}
	for _, d := range wrongDice() {
		expectEqual(t, fmt.Sprint("IsDie ", d), impl.IsDie(d), false)
	}
	expectEqual(t, "IsDie of zeros", impl.IsDie(impl.Die{}), true)
}

func TestPromise1RollDie(t *testing.T) {
	want := map[string]string{"n": "413652", "e": "521463", "s": "263154", "w": "326415"}
	for dir, text := range want {
		got, ok := impl.RollDie(die("123456"), dir)
		expectEqual(t, "RollDie 123456 "+dir, got, die(text))
		expectEqual(t, "RollDie succeeds", ok, true)
	}
	for _, d := range append(sampleDice(), diceUpTo(2)...) {
		for dir, m := range rollMatrices {
			got, ok := impl.RollDie(d, string(dir))
			expectEqual(t, fmt.Sprint("RollDie ", d, string(dir)), got, movedDie(d, m))
			expectEqual(t, "RollDie succeeds", ok, true)
		}
	}
	for _, dir := range wrongDirections() {
		got, ok := impl.RollDie(die("123456"), dir)
		expectFailure(t, fmt.Sprintf("RollDie in the direction %q", dir), got, ok)
	}
	for _, d := range wrongDice() {
		for dir := range rollMatrices {
			got, ok := impl.RollDie(d, string(dir))
			expectFailure(t, fmt.Sprint("RollDie of ", d), got, ok)
		}
	}
}

func TestPromise1RollsAreUndone(t *testing.T) {
	for _, d := range sampleDice() {
		for _, pair := range []string{"ns", "sn", "ew", "we"} {
			there, _ := impl.RollDie(d, pair[:1])
			back, ok := impl.RollDie(there, pair[1:])
			expectEqual(t, fmt.Sprint("rolled there and back ", pair), back, d)
			expectEqual(t, "RollDie succeeds", ok, true)
		}
	}
}

func TestPromise1TurnDie(t *testing.T) {
	for k, text := range []string{"123456", "152346", "145236", "134526"} {
		got, ok := impl.TurnDie(die("123456"), k)
		expectEqual(t, fmt.Sprint("TurnDie 123456 ", k), got, die(text))
		expectEqual(t, "TurnDie succeeds", ok, true)
	}
	for _, d := range sampleDice() {
		turned := d
		for k := range 4 {
			got, ok := impl.TurnDie(d, k)
			expectEqual(t, fmt.Sprint("TurnDie ", d, k), got, turned)
			expectEqual(t, "TurnDie succeeds", ok, true)
			turned = movedDie(turned, quarter)
		}
		for _, k := range []int{-4, -1, 4, 5, 8, 256, math.MinInt, math.MaxInt} {
			got, ok := impl.TurnDie(d, k)
			expectFailure(t, fmt.Sprint("TurnDie by ", k), got, ok)
		}
	}
	for _, d := range wrongDice() {
		for k := range 4 {
			got, ok := impl.TurnDie(d, k)
			expectFailure(t, fmt.Sprint("TurnDie of ", d), got, ok)
		}
	}
}

func TestPromise1IsRolls(t *testing.T) {
	for _, word := range slices.Concat(allWords(3), longestWords(), []string{longWord(59)}) {
		expectEqual(t, fmt.Sprintf("IsRolls %q", word), impl.IsRolls(word), true)
	}
	for _, word := range wrongWords() {
		expectEqual(t, fmt.Sprintf("IsRolls %q", word), impl.IsRolls(word), false)
	}
	for c := range 256 {
		sign := string([]byte{byte(c)})
		expectEqual(t, fmt.Sprintf("IsRolls %q", sign), impl.IsRolls(sign), strings.Contains("nesw", sign))
	}
	for place := range 60 {
		word := longWord(60)
		word = word[:place] + "x" + word[place+1:]
		expectEqual(t, fmt.Sprintf("IsRolls %q", word), impl.IsRolls(word), false)
	}
}

func TestPromise1RollWord(t *testing.T) {
	for word, text := range map[string]string{"": "123456", "n": "413652", "ee": "625431", "ne": "514623", "en": "451362", "ees": "215634", "nesw": "436512"} {
		got, ok := impl.RollWord(die("123456"), word)
		expectEqual(t, "RollWord 123456 "+word, got, die(text))
		expectEqual(t, "RollWord succeeds", ok, true)
	}
	for _, word := range slices.Concat(allWords(4), longestWords()) {
		for _, d := range sampleDice() {
			got, ok := impl.RollWord(d, word)
			expectEqual(t, fmt.Sprint("RollWord ", d, word), got, movedDie(d, matrixOfWord(word)))
			expectEqual(t, "RollWord succeeds", ok, true)
		}
	}
	for _, word := range wrongWords() {
		got, ok := impl.RollWord(die("123456"), word)
		expectFailure(t, fmt.Sprintf("RollWord along %q", word), got, ok)
	}
	for _, d := range wrongDice() {
		for _, word := range []string{"", "n", "nesw", longWord(60)} {
			got, ok := impl.RollWord(d, word)
			expectFailure(t, fmt.Sprint("RollWord of ", d), got, ok)
		}
	}
}

func TestPromise1BackWord(t *testing.T) {
	for word, want := range map[string]string{"": "", "n": "s", "e": "w", "s": "n", "w": "e", "nne": "wss", "nesw": "enws", "nees": "nwws"} {
		got, ok := impl.BackWord(word)
		expectEqual(t, "BackWord "+word, got, want)
		expectEqual(t, "BackWord succeeds", ok, true)
	}
	opposite := map[byte]byte{'n': 's', 's': 'n', 'e': 'w', 'w': 'e'}
	for _, word := range slices.Concat(allWords(4), longestWords()) {
		want := []byte{}
		for i := range len(word) {
			want = append([]byte{opposite[word[i]]}, want...)
		}
		got, ok := impl.BackWord(word)
		expectEqual(t, "BackWord "+word, got, string(want))
		expectEqual(t, "BackWord succeeds", ok, true)
		there, _ := impl.RollWord(die("123456"), word)
		back, ok := impl.RollWord(there, got)
		expectEqual(t, "rolled there and back "+word, back, die("123456"))
		expectEqual(t, "RollWord succeeds", ok, true)
	}
	for _, word := range wrongWords() {
		got, ok := impl.BackWord(word)
		expectFailure(t, fmt.Sprintf("BackWord of %q", word), got, ok)
	}
}

func TestPromise1OrderOfRolls(t *testing.T) {
	for word, want := range map[string]int{"": 1, "ns": 1, "nnnn": 1, "n": 4, "w": 4, "nn": 2, "ee": 2, "ne": 3, "nesw": 3} {
		got, ok := impl.OrderOfRolls(word)
		expectEqual(t, "OrderOfRolls "+word, got, want)
		expectEqual(t, "OrderOfRolls succeeds", ok, true)
	}
	for _, word := range slices.Concat(allWords(5), longestWords()) {
		want := 1
		for m := matrixOfWord(word); m != still; m = matrixOfWord(word).after(m) {
			want++
		}
		got, ok := impl.OrderOfRolls(word)
		expectEqual(t, "OrderOfRolls "+word, got, want)
		expectEqual(t, "OrderOfRolls succeeds", ok, true)
	}
	for _, word := range wrongWords() {
		got, ok := impl.OrderOfRolls(word)
		expectFailure(t, fmt.Sprintf("OrderOfRolls of %q", word), got, ok)
	}
}

func TestPromise1AreSameRolls(t *testing.T) {
	words := slices.Concat(allWords(3), longestWords())
	for _, v := range words {
		for _, w := range words {
			got, ok := impl.AreSameRolls(v, w)
			expectEqual(t, "AreSameRolls "+v+" "+w, got, matrixOfWord(v) == matrixOfWord(w))
			expectEqual(t, "AreSameRolls succeeds", ok, true)
		}
	}
	for _, wrong := range wrongWords() {
		for _, word := range []string{"", "n", "nesw", wrong} {
			got, ok := impl.AreSameRolls(wrong, word)
			expectFailure(t, fmt.Sprintf("AreSameRolls %q %q", wrong, word), got, ok)
			got, ok = impl.AreSameRolls(word, wrong)
			expectFailure(t, fmt.Sprintf("AreSameRolls %q %q", word, wrong), got, ok)
		}
	}
}

func TestPromise1ShortestRolls(t *testing.T) {
	for word, want := range map[string]string{"": "", "ns": "", "nnn": "s", "nn": "nn", "ss": "nn", "ww": "ee", "eee": "w", "sw": "sw"} {
		got, ok := impl.ShortestRolls(word)
		expectEqual(t, "ShortestRolls "+word, got, want)
		expectEqual(t, "ShortestRolls succeeds", ok, true)
	}
	first := turnWords()
	expectEqual(t, "ways that words make", len(first), 24)
	for _, word := range slices.Concat(allWords(5), longestWords()) {
		got, ok := impl.ShortestRolls(word)
		expectEqual(t, "ShortestRolls "+word, got, first[matrixOfWord(word)])
		expectEqual(t, "ShortestRolls succeeds", ok, true)
	}
	for _, word := range wrongWords() {
		got, ok := impl.ShortestRolls(word)
		expectFailure(t, fmt.Sprintf("ShortestRolls of %q", word), got, ok)
	}
}

func TestPromise1WaysToLie(t *testing.T) {
	want := []impl.Die{die("111112"), die("111121"), die("111211"), die("112111"), die("121111"), die("211111")}
	if got, ok := impl.WaysToLie(die("112111")); !ok || !slices.Equal(got, want) {
		t.Errorf("WaysToLie 112111: got %v, %v", got, ok)
	}
	for _, d := range append(sampleDice(), diceUpTo(3)...) {
		got, ok := impl.WaysToLie(d)
		if want := waysInSpace(d); !ok || !slices.Equal(got, want) {
			t.Errorf("WaysToLie %v: got %v, %v, want %v", d, got, ok, want)
		}
	}
	for _, d := range wrongDice() {
		if got, ok := impl.WaysToLie(d); ok || len(got) != 0 {
			t.Errorf("WaysToLie %v: got %v, %v", d, got, ok)
		}
	}
}

func TestPromise1CountWays(t *testing.T) {
	for text, want := range map[string]int{"123456": 24, "987650": 24, "000000": 1, "999999": 1, "111112": 6, "122221": 3, "112233": 24, "123231": 6, "123241": 12, "111222": 8} {
		got, ok := impl.CountWays(die(text))
		expectEqual(t, "CountWays "+text, got, want)
		expectEqual(t, "CountWays succeeds", ok, true)
	}
	for _, d := range append(sampleDice(), diceUpTo(3)...) {
		got, ok := impl.CountWays(d)
		expectEqual(t, fmt.Sprint("CountWays ", d), got, len(waysInSpace(d)))
		expectEqual(t, "CountWays succeeds", ok, true)
		expectEqual(t, fmt.Sprint("24 modulo CountWays ", d), 24%max(got, 1), 0)
	}
	for _, d := range wrongDice() {
		got, ok := impl.CountWays(d)
		expectFailure(t, fmt.Sprint("CountWays of ", d), got, ok)
	}
}

// pairsOfDice returns dice of which rolls make one of the other, and others.
func pairsOfDice() [][2]impl.Die {
	var pairs [][2]impl.Die
	for _, d := range sampleDice() {
		for _, e := range append(waysInSpace(d), sampleDice()...) {
			pairs = append(pairs, [2]impl.Die{d, e})
		}
		mirrored := facesOf(d)
		mirrored[2], mirrored[4] = mirrored[4], mirrored[2]
		pairs = append(pairs, [2]impl.Die{d, dieOf(mirrored)})
	}
	for _, d := range diceUpTo(2) {
		for _, e := range diceUpTo(2) {
			pairs = append(pairs, [2]impl.Die{d, e})
		}
	}
	return pairs
}

func TestPromise1IsTurned(t *testing.T) {
	for _, pair := range pairsOfDice() {
		got, ok := impl.IsTurned(pair[0], pair[1])
		expectEqual(t, fmt.Sprint("IsTurned ", pair), got, slices.Contains(waysInSpace(pair[0]), pair[1]))
		expectEqual(t, "IsTurned succeeds", ok, true)
	}
	for _, wrong := range wrongDice() {
		for _, d := range []impl.Die{die("123456"), {}, wrong} {
			got, ok := impl.IsTurned(wrong, d)
			expectFailure(t, fmt.Sprint("IsTurned of ", wrong), got, ok)
			got, ok = impl.IsTurned(d, wrong)
			expectFailure(t, fmt.Sprint("IsTurned to ", wrong), got, ok)
		}
	}
}

func TestPromise1RollsBetween(t *testing.T) {
	for texts, want := range map[[2]string]string{{"123456", "123456"}: "", {"123456", "413652"}: "n", {"123456", "521463"}: "e", {"123456", "643251"}: "nn", {"111112", "111112"}: "", {"111112", "211111"}: "nn", {"111112", "112111"}: "w"} {
		got, ok := impl.RollsBetween(die(texts[0]), die(texts[1]))
		expectEqual(t, fmt.Sprint("RollsBetween ", texts), got, want)
		expectEqual(t, "RollsBetween succeeds", ok, true)
	}
	words := allWords(5)
	for _, pair := range pairsOfDice() {
		got, ok := impl.RollsBetween(pair[0], pair[1])
		i := slices.IndexFunc(words, func(word string) bool { return movedDie(pair[0], matrixOfWord(word)) == pair[1] })
		if i < 0 {
			expectFailure(t, fmt.Sprint("RollsBetween ", pair), got, ok)
			continue
		}
		expectEqual(t, fmt.Sprint("RollsBetween ", pair), got, words[i])
		expectEqual(t, "RollsBetween succeeds", ok, true)
	}
	for _, wrong := range wrongDice() {
		for _, d := range []impl.Die{die("123456"), {}, wrong} {
			got, ok := impl.RollsBetween(wrong, d)
			expectFailure(t, fmt.Sprint("RollsBetween from ", wrong), got, ok)
			got, ok = impl.RollsBetween(d, wrong)
			expectFailure(t, fmt.Sprint("RollsBetween to ", wrong), got, ok)
		}
	}
}

func TestPromise1LeastDie(t *testing.T) {
	for text, want := range map[string]string{"123456": "123456", "643251": "123456", "654321": "123456", "125436": "125436", "999990": "099999", "211111": "111112"} {
		got, ok := impl.LeastDie(die(text))
		expectEqual(t, "LeastDie "+text, got, die(want))
		expectEqual(t, "LeastDie succeeds", ok, true)
	}
	for _, d := range append(sampleDice(), diceUpTo(3)...) {
		got, ok := impl.LeastDie(d)
		expectEqual(t, fmt.Sprint("LeastDie ", d), got, waysInSpace(d)[0])
		expectEqual(t, "LeastDie succeeds", ok, true)
	}
	for _, d := range wrongDice() {
		got, ok := impl.LeastDie(d)
		expectFailure(t, fmt.Sprint("LeastDie of ", d), got, ok)
	}
}

func TestPromise1MirrorDie(t *testing.T) {
	for text, want := range map[string]string{"123456": "125436", "111111": "111111", "001000": "000010", "909090": "909090", "123432": "123432"} {
		got, ok := impl.MirrorDie(die(text))
		expectEqual(t, "MirrorDie "+text, got, die(want))
		expectEqual(t, "MirrorDie succeeds", ok, true)
	}
	for _, d := range sampleDice() {
		got, ok := impl.MirrorDie(d)
		expectEqual(t, fmt.Sprint("MirrorDie ", d), got, movedDie(d, matrix{{-1, 0, 0}, {0, 1, 0}, {0, 0, 1}}))
		expectEqual(t, "MirrorDie succeeds", ok, true)
	}
	for _, d := range wrongDice() {
		got, ok := impl.MirrorDie(d)
		expectFailure(t, fmt.Sprint("MirrorDie of ", d), got, ok)
	}
}

func TestPromise1IsHanded(t *testing.T) {
	for text, want := range map[string]bool{"123456": true, "123546": true, "112345": true, "012345": true, "123451": false, "121314": false, "111111": false, "111112": false, "112233": true} {
		got, ok := impl.IsHanded(die(text))
		expectEqual(t, "IsHanded "+text, got, want)
		expectEqual(t, "IsHanded succeeds", ok, true)
	}
	handed := 0
	for _, d := range append(sampleDice(), diceUpTo(3)...) {
		mirrored := movedDie(d, matrix{{-1, 0, 0}, {0, 1, 0}, {0, 0, 1}})
		want := !slices.Contains(waysInSpace(d), mirrored)
		got, ok := impl.IsHanded(d)
		expectEqual(t, fmt.Sprint("IsHanded ", d), got, want)
		expectEqual(t, "IsHanded succeeds", ok, true)
		if want {
			handed++
		}
	}
	if handed == 0 {
		t.Error("no die of the sample is handed")
	}
	for _, d := range wrongDice() {
		got, ok := impl.IsHanded(d)
		expectFailure(t, fmt.Sprint("IsHanded of ", d), got, ok)
	}
}

func TestPromise1OppositeOf(t *testing.T) {
	for face, want := range map[int]int{1: 6, 2: 4, 3: 5, 4: 2, 5: 3, 6: 1} {
		got, ok := impl.OppositeOf(die("123456"), face)
		expectEqual(t, fmt.Sprint("OppositeOf 123456 ", face), got, want)
		expectEqual(t, "OppositeOf succeeds", ok, true)
	}
	for _, d := range append(sampleDice(), diceUpTo(3)...) {
		for face := -2; face <= 12; face++ {
			want, count := 0, 0
			for i, number := range facesOf(d) {
				if number == face {
					opposite := vector{-sides[i][0], -sides[i][1], -sides[i][2]}
					want = facesOf(d)[slices.Index(sides, opposite)]
					count++
				}
			}
			got, ok := impl.OppositeOf(d, face)
			if count != 1 {
				expectFailure(t, fmt.Sprint("OppositeOf ", d, face), got, ok)
				continue
			}
			expectEqual(t, fmt.Sprint("OppositeOf ", d, face), got, want)
			expectEqual(t, "OppositeOf succeeds", ok, true)
		}
	}
	for _, face := range []int{math.MinInt, -1, 0, 7, 9, 10, 257, math.MaxInt} {
		got, ok := impl.OppositeOf(die("123456"), face)
		expectFailure(t, fmt.Sprint("OppositeOf 123456 ", face), got, ok)
	}
	for _, d := range wrongDice() {
		for _, face := range append(facesOf(d), 0) {
			got, ok := impl.OppositeOf(d, face)
			expectFailure(t, fmt.Sprint("OppositeOf ", d, face), got, ok)
		}
	}
}

func TestPromise1IsCommonDie(t *testing.T) {
	for text, want := range map[string]bool{"123546": true, "123456": false, "124536": true, "111666": false, "161616": false, "000777": false, "012567": false, "111111": false, "777000": false, "132466": false} {
		expectEqual(t, "IsCommonDie "+text, impl.IsCommonDie(die(text)), want)
	}
	common := 0
	for _, d := range diceUpTo(7) {
		faces := facesOf(d)
		slices.Sort(faces)
		want := slices.Equal(faces, []int{1, 2, 3, 4, 5, 6}) && d.Top+d.Bottom == 7 && d.North+d.South == 7 && d.East+d.West == 7
		if got := impl.IsCommonDie(d); got != want {
			t.Errorf("IsCommonDie %v: got %v, want %v", d, got, want)
		}
		if want {
			common++
		}
	}
	expectEqual(t, "common dice", common, 48)
	for _, d := range append(wrongDice(), dieOf([]int{8, 2, 3, 5, 4, -1}), dieOf([]int{math.MaxInt, 2, 3, 5, 4, math.MinInt + 8})) {
		expectEqual(t, fmt.Sprint("IsCommonDie ", d), impl.IsCommonDie(d), false)
	}
}

func TestPromise1DieText(t *testing.T) {
	for _, d := range append(sampleDice(), diceUpTo(3)...) {
		want := ""
		for _, face := range facesOf(d) {
			want += fmt.Sprint(face)
		}
		got, ok := impl.DieText(d)
		expectEqual(t, fmt.Sprint("DieText ", d), got, want)
		expectEqual(t, "DieText succeeds", ok, true)
		back, ok := impl.ParseDie(got)
		expectEqual(t, "ParseDie "+got, back, d)
		expectEqual(t, "ParseDie succeeds", ok, true)
	}
	for _, d := range wrongDice() {
		got, ok := impl.DieText(d)
		expectFailure(t, fmt.Sprint("DieText of ", d), got, ok)
	}
}

func TestPromise1ParseDie(t *testing.T) {
	for text, want := range map[string]impl.Die{
		"123456": {Top: 1, North: 2, East: 3, South: 4, West: 5, Bottom: 6},
		"098765": {North: 9, East: 8, South: 7, West: 6, Bottom: 5},
		"000000": {},
		"999999": {Top: 9, North: 9, East: 9, South: 9, West: 9, Bottom: 9},
	} {
		got, ok := impl.ParseDie(text)
		expectEqual(t, "ParseDie "+text, got, want)
		expectEqual(t, "ParseDie succeeds", ok, true)
	}
	for _, text := range []string{"", "1", "12345", "1234567", "123456\n", " 123456", "-12345", "+12345", "12345a", "12 456", "1,3456", "１２", "\x00\x00\x00\x00\x00\x00", strings.Repeat("1", 5000)} {
		got, ok := impl.ParseDie(text)
		expectFailure(t, fmt.Sprintf("ParseDie %q", text), got, ok)
	}
	for place := range 6 {
		for c := range 256 {
			text := []byte("123456")
			text[place] = byte(c)
			got, ok := impl.ParseDie(string(text))
			if c < '0' || c > '9' {
				expectFailure(t, fmt.Sprintf("ParseDie %q", text), got, ok)
				continue
			}
			expectEqual(t, fmt.Sprintf("ParseDie %q", text), got, die(string(text)))
			expectEqual(t, "ParseDie succeeds", ok, true)
		}
	}
}
