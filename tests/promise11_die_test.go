package tests

import (
	"fmt"
	"math"
	"slices"
	"strings"
	"testing"

	"loop.example/g01207/impl"
)

// wildDice returns dice and what is none.
func wildDice() []impl.Die {
	dice := append(wrongDice(), die("123456"), die("123546"), die("111112"), die("000000"), die("999999"))
	for _, number := range []int{math.MinInt, math.MinInt + 1, math.MinInt32, -1, 6, 48, 57, math.MaxInt32, math.MaxInt - 1, math.MaxInt} {
		dice = append(dice, dieOf([]int{number, number, number, number, number, number}))
	}
	return append(dice, dieOf([]int{math.MaxInt, math.MinInt, 0, 9, math.MaxInt, math.MinInt}))
}

// wildTexts returns words, directions, texts of dice, and what is none of these.
func wildTexts() []string {
	texts := slices.Concat(wrongDirections(), longestWords(), []string{"n", "e", "s", "w", "123456", "000000", "12345", "１２３４５６"})
	return append(texts, strings.Repeat("\xf0\x9f\x8e\xb2", 15), strings.Repeat("nesw", 1<<14), strings.Repeat("1", 1<<14))
}

var wildNumbers = []int{math.MinInt, -4, -1, 0, 1, 2, 3, 4, 6, 9, 10, math.MaxInt}

// outcome tells all results of a call, or that it panicked.
func outcome[T any](t *testing.T, what string, call func() (T, bool)) string {
	t.Helper()
	defer func() {
		if r := recover(); r != nil {
			t.Errorf("%s panicked: %v", what, r)
		}
	}()
	got, ok := call()
	return fmt.Sprintf("%s = %#v, %v", what, got, ok)
}

func alone(call func() bool) func() (bool, bool) {
	return func() (bool, bool) { return call(), true }
}

// outcomesOfDie calls each function whose arguments are one die and a number.
func outcomesOfDie(t *testing.T, d impl.Die) []string {
	out := []string{
		outcome(t, fmt.Sprint("IsDie ", d), alone(func() bool { return impl.IsDie(d) })),
		outcome(t, fmt.Sprint("WaysToLie ", d), func() ([]impl.Die, bool) { return impl.WaysToLie(d) }),
		outcome(t, fmt.Sprint("CountWays ", d), func() (int, bool) { return impl.CountWays(d) }),
		outcome(t, fmt.Sprint("LeastDie ", d), func() (impl.Die, bool) { return impl.LeastDie(d) }),
		outcome(t, fmt.Sprint("MirrorDie ", d), func() (impl.Die, bool) { return impl.MirrorDie(d) }),
		outcome(t, fmt.Sprint("IsHanded ", d), func() (bool, bool) { return impl.IsHanded(d) }),
		outcome(t, fmt.Sprint("IsCommonDie ", d), alone(func() bool { return impl.IsCommonDie(d) })),
		outcome(t, fmt.Sprint("DieText ", d), func() (string, bool) { return impl.DieText(d) }),
	}
	for _, number := range wildNumbers {
		out = append(out,
			outcome(t, fmt.Sprint("TurnDie ", d, number), func() (impl.Die, bool) { return impl.TurnDie(d, number) }),
			outcome(t, fmt.Sprint("OppositeOf ", d, number), func() (int, bool) { return impl.OppositeOf(d, number) }))
	}
	return out
}

// outcomesOfDice calls each function whose arguments are two dice.
func outcomesOfDice(t *testing.T, d impl.Die, e impl.Die) []string {
	return []string{
		outcome(t, fmt.Sprint("IsTurned ", d, e), func() (bool, bool) { return impl.IsTurned(d, e) }),
		outcome(t, fmt.Sprint("RollsBetween ", d, e), func() (string, bool) { return impl.RollsBetween(d, e) }),
	}
}

// outcomesOfText calls each function whose argument is one text.
func outcomesOfText(t *testing.T, s string) []string {
	return []string{
		outcome(t, fmt.Sprintf("IsRolls %q", s), alone(func() bool { return impl.IsRolls(s) })),
		outcome(t, fmt.Sprintf("BackWord %q", s), func() (string, bool) { return impl.BackWord(s) }),
		outcome(t, fmt.Sprintf("OrderOfRolls %q", s), func() (int, bool) { return impl.OrderOfRolls(s) }),
		outcome(t, fmt.Sprintf("ShortestRolls %q", s), func() (string, bool) { return impl.ShortestRolls(s) }),
		outcome(t, fmt.Sprintf("ParseDie %q", s), func() (impl.Die, bool) { return impl.ParseDie(s) }),
	}
}

// outcomesOfDieAndText calls each function whose arguments are a die and a text.
func outcomesOfDieAndText(t *testing.T, d impl.Die, s string) []string {
	return []string{
		outcome(t, fmt.Sprintf("RollDie %v %q", d, s), func() (impl.Die, bool) { return impl.RollDie(d, s) }),
		outcome(t, fmt.Sprintf("RollWord %v %q", d, s), func() (impl.Die, bool) { return impl.RollWord(d, s) }),
	}
}

// allOutcomes calls all twenty functions with all wild arguments.
func allOutcomes(t *testing.T) []string {
	var out []string
	dice, texts := wildDice(), wildTexts()
	for _, d := range dice {
		out = append(out, outcomesOfDie(t, d)...)
		for _, e := range dice {
			out = append(out, outcomesOfDice(t, d, e)...)
		}
		for _, s := range texts {
			out = append(out, outcomesOfDieAndText(t, d, s)...)
		}
	}
	for _, s := range texts {
		out = append(out, outcomesOfText(t, s)...)
		for _, other := range texts {
			out = append(out, outcome(t, fmt.Sprintf("AreSameRolls %q %q", s, other), func() (bool, bool) { return impl.AreSameRolls(s, other) }))
		}
	}
	return out
}

// expectSameOutcomes checks that the same calls, made twice, have the same results, and that none of them panics.
func expectSameOutcomes(t *testing.T, calls func(t *testing.T) []string) {
	t.Helper()
	first, second := calls(t), calls(t)
	for i := range first {
		if first[i] != second[i] {
			t.Errorf("one call, two results: %.300s and %.300s", first[i], second[i])
		}
	}
}

func TestPromise11AllArguments(t *testing.T) {
	expectSameOutcomes(t, allOutcomes)
}

func TestPromise11ArgumentsAreKept(t *testing.T) {
	dice, texts := wildDice(), wildTexts()
	keptDice := slices.Clone(dice)
	keptTexts := make([]string, len(texts))
	for i, s := range texts {
		keptTexts[i] = strings.Clone(s)
	}
	for i := range dice {
		outcomesOfDie(t, dice[i])
		outcomesOfDice(t, dice[i], dice[len(dice)-1-i])
		outcomesOfDieAndText(t, dice[i], texts[i%len(texts)])
	}
	for _, s := range texts {
		outcomesOfText(t, s)
	}
	if !slices.Equal(dice, keptDice) || !slices.Equal(texts, keptTexts) {
		t.Error("an argument was modified")
	}
}

func TestPromise11ResultsAreNew(t *testing.T) {
	want := waysInSpace(die("123456"))
	first, _ := impl.WaysToLie(die("123456"))
	second, _ := impl.WaysToLie(die("123456"))
	for i := range first {
		first[i] = impl.Die{}
	}
	_ = append(first[:0], die("999999"))
	if !slices.Equal(second, want) {
		t.Error("two results of WaysToLie share memory")
	}
	third, ok := impl.WaysToLie(die("123456"))
	if !ok || !slices.Equal(third, want) {
		t.Error("a changed result of WaysToLie changes a later one")
	}
}
