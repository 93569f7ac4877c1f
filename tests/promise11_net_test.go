package tests

import (
	"fmt"
	"strings"
	"testing"

	"loop.example/g01207/impl"
)

// netTexts returns nets, sixes that are no nets, shapes, texts that are shapes only turned or mirrored, and what is none of these.
func netTexts() []string {
	texts := strings.Fields(".0../1234/.5.. ...6/.254/31.. ..631/254.. 777../..777 01../.23./..45 0/12/.34/..5 012345 0/1/2/3/4/5 01/23/45 ..o./oooo/..o. .o../oooo/.o.. ..ooo/ooo.. ooo../..ooo oooooo ooo/ooo ..o./0000/..o. .o../oooo/.5..")
	texts = append(texts, netShapes()...)
	for i, s := range sampleNets() {
		if i%37 == 0 {
			texts = append(texts, s)
		}
	}
	texts = append(texts, wrongSixes()...)
	return append(texts, strings.Repeat(".0../1234/.5../", 1000), strings.Repeat("\xf0\x9f\x8e\xb2", 6), strings.Repeat("./", 1<<14)+"0", strings.Repeat("o", 1<<14))
}

// outcomesOfNet calls each function of nets whose argument is one text.
func outcomesOfNet(t *testing.T, s string) []string {
	what := fmt.Sprintf("%.60q", s)
	return []string{
		outcome(t, "IsSix "+what, alone(func() bool { return impl.IsSix(s) })),
		outcome(t, "IsNet "+what, alone(func() bool { return impl.IsNet(s) })),
		outcome(t, "FoldNet "+what, func() (impl.Die, bool) { return impl.FoldNet(s) }),
		outcome(t, "PlacesOfNet "+what, func() (string, bool) { return impl.PlacesOfNet(s) }),
		outcome(t, "ShapeOfNet "+what, func() (string, bool) { return impl.ShapeOfNet(s) }),
		outcome(t, "IsNetShape "+what, alone(func() bool { return impl.IsNetShape(s) })),
		outcome(t, "TurnNet "+what, func() (string, bool) { return impl.TurnNet(s) }),
		outcome(t, "MirrorNet "+what, func() (string, bool) { return impl.MirrorNet(s) }),
		outcome(t, "KeptEdges "+what, func() ([]string, bool) { return impl.KeptEdges(s) }),
		outcome(t, "FoldOrder "+what, func() ([]int, bool) { return impl.FoldOrder(s) }),
		outcome(t, "LongestRow "+what, func() (int, bool) { return impl.LongestRow(s) }),
	}
}

// outcomesOfFigures calls the functions without arguments.
func outcomesOfFigures(t *testing.T) []string {
	return []string{
		outcome(t, "AllShapes", func() ([]string, bool) { return impl.AllShapes(), true }),
		outcome(t, "CountHexominoes", func() (int, bool) { return impl.CountHexominoes(), true }),
		outcome(t, "CountFaceTrees", func() (int, bool) { return impl.CountFaceTrees(), true }),
	}
}

// outcomesOfNetAndDie calls each function whose arguments are a die and a shape.
func outcomesOfNetAndDie(t *testing.T, s string, d impl.Die) []string {
	what := fmt.Sprintf("%.60q %v", s, d)
	return []string{
		outcome(t, "NetOfShape "+what, func() (string, bool) { return impl.NetOfShape(s, d) }),
		outcome(t, "NetsOf "+what, func() ([]string, bool) { return impl.NetsOf(d, s) }),
	}
}

func outcomesOfNets(t *testing.T, s string, other string) []string {
	what := fmt.Sprintf("AreSameDie %.60q %.60q", s, other)
	return []string{outcome(t, what, func() (bool, bool) { return impl.AreSameDie(s, other) })}
}

// allNetOutcomes calls all eighteen functions of nets with all wild arguments.
func allNetOutcomes(t *testing.T) []string {
	out := outcomesOfFigures(t)
	texts, dice := netTexts(), wildDice()
	for i, s := range append(texts, wildTexts()...) {
		out = append(out, outcomesOfNet(t, s)...)
		out = append(out, outcomesOfNets(t, s, s)...)
		out = append(out, outcomesOfNets(t, s, texts[i*7%len(texts)])...)
		out = append(out, outcomesOfNets(t, texts[i%17], s)...)
		for k := i % 5; k < len(dice); k += 5 {
			out = append(out, outcomesOfNetAndDie(t, s, dice[k])...)
		}
	}
	for _, d := range dice {
		out = append(out, outcome(t, fmt.Sprint("CountNetsOf ", d), func() (int, bool) { return impl.CountNetsOf(d) }))
		for _, s := range texts[:40] {
			out = append(out, outcomesOfNetAndDie(t, s, d)...)
		}
	}
	return out
}

func TestPromise11NetsAllArguments(t *testing.T) {
	expectSameOutcomes(t, allNetOutcomes)
}

func TestPromise11NetsArgumentsAreKept(t *testing.T) {
	texts, dice := netTexts(), wildDice()
	for i, s := range texts {
		other, d := texts[i*7%len(texts)], dice[i%len(dice)]
		keptText, keptOther, keptDie := strings.Clone(s), strings.Clone(other), d
		outcomesOfNet(t, s)
		outcomesOfNets(t, s, other)
		outcomesOfNetAndDie(t, s, d)
		impl.CountNetsOf(d)
		if s != keptText || other != keptOther || d != keptDie {
			t.Errorf("an argument was modified: %q %q %v", s, other, d)
		}
	}
}

func TestPromise11NetsResultsAreNew(t *testing.T) {
	expectNew(t, "AllShapes", func() ([]string, bool) { return impl.AllShapes(), true })
	for _, s := range []string{".0../1234/.5..", "..631/254..", "777../..777"} {
		expectNew(t, "KeptEdges "+s, func() ([]string, bool) { return impl.KeptEdges(s) })
		expectNew(t, "FoldOrder "+s, func() ([]int, bool) { return impl.FoldOrder(s) })
	}
	for _, shape := range netShapes() {
		for _, d := range sampleDice() {
			expectNew(t, fmt.Sprint("NetsOf ", d, shape), func() ([]string, bool) { return impl.NetsOf(d, shape) })
		}
	}
}

// What a caller writes to the list of all shapes does not change which texts are shapes.
func TestPromise11NetsShapesAreKept(t *testing.T) {
	shapes := impl.AllShapes()
	clear(shapes)
	for _, shape := range netShapes() {
		expectEqual(t, "IsNetShape "+shape, impl.IsNetShape(shape), true)
	}
	expectEqual(t, "CountHexominoes", impl.CountHexominoes(), 35)
	count, ok := impl.CountNetsOf(die("123456"))
	expectEqual(t, "CountNetsOf", count, 1536)
	expectEqual(t, "CountNetsOf succeeds", ok, true)
}
