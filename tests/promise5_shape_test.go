package tests

import (
	"fmt"
	"slices"
	"strings"
	"testing"

	"loop.example/g01207/impl"
)

var elevenShapes = strings.Fields("...o/.ooo/oo.. ...o/oooo/...o ...o/oooo/..o. ...o/oooo/.o.. ...o/oooo/o... ..o./.ooo/oo.. ..o./ooo./..oo ..o./oooo/..o. ..o./oooo/.o.. ..o/.oo/oo./o.. ..ooo/ooo..")

func TestPromise5ShapeOfNet(t *testing.T) {
	for s, want := range map[string]string{".0../1234/.5..": "..o./oooo/..o.", "012../..345": "..ooo/ooo..", "..631/254..": "..ooo/ooo..", "7/77/.7/.77/..7": "", "0/12/.34/..5": "", "0../12./.34/..5": "..o/.oo/oo./o..", "..0/.12/34./5..": "..o/.oo/oo./o..", "01../.23./..45": "..o/.oo/oo./o.."} {
		shape, ok := impl.ShapeOfNet(s)
		expectEqual(t, "ShapeOfNet "+s, shape, want)
		expectEqual(t, "ShapeOfNet succeeds", ok, want != "")
	}
	for _, s := range sampleNets() {
		shape, ok := impl.ShapeOfNet(s)
		expectEqual(t, "ShapeOfNet "+s, shape, figureOf(s).shape())
		expectEqual(t, "ShapeOfNet succeeds", ok, true)
	}
}

func TestPromise5EightTextsHaveOneShape(t *testing.T) {
	for _, shape := range elevenShapes {
		f := figureOf(filledWith(shape, "123456"))
		for _, symmetry := range symmetries {
			text := f.moved(symmetry).text(false)
			got, ok := impl.ShapeOfNet(text)
			expectEqual(t, "ShapeOfNet "+text, got, shape)
			expectEqual(t, "ShapeOfNet succeeds", ok, true)
		}
	}
}

func TestPromise5IsNetShape(t *testing.T) {
	for _, shape := range elevenShapes {
		expectEqual(t, "IsNetShape "+shape, impl.IsNetShape(shape), true)
	}
	for _, form := range sixForms() {
		want := isFolding(form) && figureOf(filledWith(form, "000000")).shape() == form
		expectEqual(t, "IsNetShape "+form, impl.IsNetShape(form), want)
	}
	for _, s := range wrongShapes() {
		expectEqual(t, fmt.Sprintf("IsNetShape %.60q", s), impl.IsNetShape(s), false)
	}
}

func TestPromise5IsNetShapeOfAllSigns(t *testing.T) {
	for _, shape := range elevenShapes {
		for i := range shape {
			for c := range 256 {
				changed := shape[:i] + string([]byte{byte(c)}) + shape[i+1:]
				expectEqual(t, fmt.Sprintf("IsNetShape %q", changed), impl.IsNetShape(changed), slices.Contains(elevenShapes, changed))
			}
		}
	}
}

func TestPromise5AllShapes(t *testing.T) {
	expectList(t, "AllShapes", impl.AllShapes(), true, elevenShapes)
	expectList(t, "AllShapes by trying all", impl.AllShapes(), true, netShapes())
	expectEqual(t, "the shapes are in the order of texts", slices.IsSorted(impl.AllShapes()), true)
}

func TestPromise5CountHexominoes(t *testing.T) {
	expectEqual(t, "CountHexominoes", impl.CountHexominoes(), 35)
	shapes := map[string]bool{}
	for _, form := range sixForms() {
		shapes[figureOf(filledWith(form, "000000")).shape()] = true
	}
	expectEqual(t, "CountHexominoes by trying all", impl.CountHexominoes(), len(shapes))
}

func TestPromise5NetOfShape(t *testing.T) {
	for _, c := range []struct{ shape, text, want string }{
		{"..o./oooo/..o.", "123456", "..6./2543/..1."}, {"...o/.ooo/oo..", "123456", "...6/.254/31.."}, {"..ooo/ooo..", "123456", "..631/254.."}, {"..ooo/ooo..", "777777", "..777/777.."}, {"..o./oooo/..o.", "900009", "..9./0000/..9."},
	} {
		s, ok := impl.NetOfShape(c.shape, die(c.text))
		expectEqual(t, fmt.Sprint("NetOfShape ", c), s, c.want)
		expectEqual(t, "NetOfShape succeeds", ok, true)
	}
	for _, shape := range elevenShapes {
		for _, d := range append(sampleDice(), diceUpTo(3)...) {
			s, ok := impl.NetOfShape(shape, d)
			f := figureOf(s)
			expectEqual(t, fmt.Sprint("the cells of NetOfShape ", shape, d), f.text(true), shape)
			expectEqual(t, fmt.Sprint("the text of NetOfShape ", shape, d), f.text(false), s)
			expectEqual(t, fmt.Sprint("the die of NetOfShape ", shape, d), f.die(), d)
			expectEqual(t, "NetOfShape succeeds", ok, true)
			folded, ok := impl.FoldNet(s)
			expectEqual(t, fmt.Sprint("FoldNet of NetOfShape ", shape, d), folded, d)
			expectEqual(t, "FoldNet succeeds", ok, true)
		}
	}
}

// Each net that has the cells of a shape as they are is the one that NetOfShape makes of the die to which it folds.
func TestPromise5NetOfShapeAndFoldNet(t *testing.T) {
	tried := 0
	for _, s := range sampleNets() {
		shape := figureOf(s).shape()
		d, _ := impl.FoldNet(s)
		if figureOf(s).text(true) != shape {
			continue
		}
		back, ok := impl.NetOfShape(shape, d)
		expectEqual(t, "NetOfShape of FoldNet "+s, back, s)
		expectEqual(t, "NetOfShape succeeds", ok, true)
		tried++
	}
	expectEqual(t, "all shapes are tried", tried, 11*len(fillings))
}

func TestPromise5ShapesAndDiceThatAreNone(t *testing.T) {
	for _, shape := range wrongShapes() {
		what := fmt.Sprintf("%.60q", shape)
		s, ok := impl.NetOfShape(shape, die("123456"))
		expectFailure(t, "NetOfShape "+what, s, ok)
		nets, ok := impl.NetsOf(die("123456"), shape)
		expectNoList(t, "NetsOf "+what, nets, ok)
	}
	for _, d := range wrongDice() {
		count, ok := impl.CountNetsOf(d)
		expectFailure(t, fmt.Sprint("CountNetsOf ", d), count, ok)
		for _, shape := range append(elevenShapes[:11:11], "", "oooooo") {
			s, ok := impl.NetOfShape(shape, d)
			expectFailure(t, fmt.Sprint("NetOfShape ", shape, d), s, ok)
			nets, ok := impl.NetsOf(d, shape)
			expectNoList(t, fmt.Sprint("NetsOf ", shape, d), nets, ok)
		}
	}
}

// orders returns the numbers of a die in all different orders, as digits.
func orders(d impl.Die) []string {
	orders := []string{""}
	for _, face := range facesOf(d) {
		var longer []string
		for _, digits := range orders {
			for i := range len(digits) + 1 {
				longer = append(longer, digits[:i]+fmt.Sprint(face)+digits[i:])
			}
		}
		orders = longer
	}
	slices.Sort(orders)
	return slices.Compact(orders)
}

// netsByShape returns the nets that fold to a die or one that rolls make of it, by their shapes, in order: all forms are filled with its numbers in all orders.
func netsByShape(d impl.Die) map[string][]string {
	ways := waysInSpace(d)
	nets := map[string][]string{}
	for _, form := range netForms() {
		f := figureOf(filledWith(form, "000000"))
		looks, _ := f.folded()
		for _, digits := range orders(d) {
			faces := make([]int, 6)
			for i, at := range f.places() {
				faces[slices.Index(sides, looks[at])] = int(digits[i] - '0')
			}
			if slices.Contains(ways, dieOf(faces)) {
				nets[f.shape()] = append(nets[f.shape()], filledWith(form, digits))
			}
		}
	}
	for _, list := range nets {
		slices.Sort(list)
	}
	return nets
}

func TestPromise5NetsOf(t *testing.T) {
	nets, ok := impl.NetsOf(die("777777"), "..o./oooo/..o.")
	expectList(t, "NetsOf one number", nets, ok, strings.Fields("..7./7777/..7. .7../7777/.7.. .7./.7./777/.7. .7./777/.7./.7."))
	nets, ok = impl.NetsOf(die("111112"), "..ooo/ooo..")
	expectList(t, "NetsOf one other number", nets[:min(7, len(nets))], ok, strings.Fields("..111/112.. ..111/121.. ..111/211.. ..112/111.. ..121/111.. ..211/111.. .1/.1/11/1./2."))
	for _, d := range sampleDice() {
		want := netsByShape(d)
		count := 0
		for _, shape := range elevenShapes {
			nets, ok := impl.NetsOf(d, shape)
			expectList(t, fmt.Sprint("NetsOf ", d, shape), nets, ok, want[shape])
			count += len(want[shape])
		}
		got, ok := impl.CountNetsOf(d)
		expectEqual(t, fmt.Sprint("CountNetsOf ", d), got, count)
		expectEqual(t, "CountNetsOf succeeds", ok, true)
	}
}

func TestPromise5CountNetsOf(t *testing.T) {
	for text, want := range map[string]int{"123456": 64 * 24, "123546": 64 * 24, "123454": 64 * 24, "112233": 64 * 24, "123321": 64 * 12, "111112": 64 * 6, "900009": 64 * 3, "000000": 64, "999999": 64} {
		got, ok := impl.CountNetsOf(die(text))
		expectEqual(t, "CountNetsOf "+text, got, want)
		expectEqual(t, "CountNetsOf succeeds", ok, true)
	}
	for _, d := range diceUpTo(3) {
		got, ok := impl.CountNetsOf(d)
		expectEqual(t, fmt.Sprint("CountNetsOf ", d), got, 64*len(waysInSpace(d)))
		expectEqual(t, "CountNetsOf succeeds", ok, true)
	}
}

// The nets of a die that rolls make of another one are the same, and those of its mirrored die are so exactly if it is not handed.
func TestPromise5NetsOfTurnedAndMirroredDice(t *testing.T) {
	tried := map[bool]int{}
	for _, d := range sampleDice() {
		for i, shape := range elevenShapes {
			nets, _ := impl.NetsOf(d, shape)
			ways := waysInSpace(d)
			turned, ok := impl.NetsOf(ways[i%len(ways)], shape)
			expectList(t, fmt.Sprint("NetsOf a turned die ", d, shape), turned, ok, nets)
			mirrored, ok := impl.NetsOf(mirroredDie(d), shape)
			same := slices.Contains(ways, mirroredDie(d))
			expectEqual(t, fmt.Sprint("NetsOf a mirrored die are the same ", d, shape), slices.Equal(mirrored, nets), same)
			expectEqual(t, "NetsOf succeeds", ok, true)
			for _, s := range nets {
				backwards, _ := impl.MirrorNet(s)
				expectEqual(t, "the mirrored net is one of the mirrored die "+s, slices.Contains(mirrored, backwards), true)
			}
			tried[same]++
		}
	}
	expectEqual(t, "handed dice and others are tried", tried[true] > 50 && tried[false] > 50, true)
}
