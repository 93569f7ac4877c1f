package tests

import (
	"cmp"
	"fmt"
	"maps"
	"regexp"
	"slices"
	"strings"
	"sync"

	"loop.example/g01207/impl"
)

// The tests of nets hold the program against paper that is folded: each digit is a square of paper that looks
// away from the inside of the die, and behind an edge the paper goes on around it. No die rolls here.

// figure tells the numbers of the cells of a six; the first row and the first column have one.
type figure map[place]int

var rowsOfDigits = regexp.MustCompile(`\A[.0-9]+(/[.0-9]+)*\z`)

// figureOf returns the digits of a text, wherever they are.
func figureOf(s string) figure {
	f := figure{}
	for y, row := range strings.Split(s, "/") {
		for x := range len(row) {
			if row[x] >= '0' && row[x] <= '9' {
				f[place{x, y}] = int(row[x] - '0')
			}
		}
	}
	return f
}

// places returns the cells row by row.
func (f figure) places() []place {
	return slices.SortedFunc(maps.Keys(f), func(a, b place) int { return cmp.Or(a.y-b.y, a.x-b.x) })
}

// text returns the text of a figure, or that of its cells alone.
func (f figure) text(cellsAlone bool) string {
	wide, high := 0, 0
	for at := range f {
		wide, high = max(wide, at.x+1), max(high, at.y+1)
	}
	rows := make([]string, high)
	for y := range rows {
		for x := range wide {
			number, has := f[place{x, y}]
			switch {
			case !has:
				rows[y] += "."
			case cellsAlone:
				rows[y] += "o"
			default:
				rows[y] += fmt.Sprint(number)
			}
		}
	}
	return strings.Join(rows, "/")
}

// symmetries has the eight ways to turn and mirror cells; the first ones turn by quarters clockwise, the others do so with rows that are backwards.
var symmetries = []func(place) place{
	func(p place) place { return p },
	func(p place) place { return place{-p.y, p.x} },
	func(p place) place { return place{-p.x, -p.y} },
	func(p place) place { return place{p.y, -p.x} },
	func(p place) place { return place{-p.x, p.y} },
	func(p place) place { return place{-p.y, -p.x} },
	func(p place) place { return place{p.x, -p.y} },
	func(p place) place { return place{p.y, p.x} },
}

// moved returns the figure behind a symmetry, laid so that it begins in the first row and in the first column.
func (f figure) moved(symmetry func(place) place) figure {
	to := map[place]place{}
	least := place{100, 100}
	for at := range f {
		to[at] = symmetry(at)
		least = place{min(least.x, to[at].x), min(least.y, to[at].y)}
	}
	g := figure{}
	for at, number := range f {
		g[place{to[at].x - least.x, to[at].y - least.y}] = number
	}
	return g
}

// turned returns the figure turned by a quarter clockwise, mirrored the one with its rows backwards.
func (f figure) turned() figure { return f.moved(symmetries[1]) }

func (f figure) mirrored() figure { return f.moved(symmetries[4]) }

// shape returns the first one of the eight texts of the cells.
func (f figure) shape() string {
	var texts []string
	for _, symmetry := range symmetries {
		texts = append(texts, f.moved(symmetry).text(true))
	}
	slices.Sort(texts)
	return texts[0]
}

// reached returns how many steps over the cells lead from the first one to each of those that hang together with it.
func (f figure) reached() map[place]int {
	queue := f.places()[:1]
	seen := map[place]int{queue[0]: 0}
	for ; len(queue) > 0; queue = queue[1:] {
		for _, step := range steps {
			to := place{queue[0].x + step.x, queue[0].y + step.y}
			if _, has := f[to]; !has {
				continue
			}
			if _, found := seen[to]; !found {
				seen[to] = seen[queue[0]] + 1
				queue = append(queue, to)
			}
		}
	}
	return seen
}

// isSix reports whether a text is a six.
func isSix(s string) bool {
	if !rowsOfDigits.MatchString(s) {
		return false
	}
	f := figureOf(s)
	if len(f) != 6 || len(f.reached()) != 6 {
		return false
	}
	return f.moved(symmetries[0]).text(false) == s
}

// paper is a square of a six in space: the direction in which it looks, and those of its east and its north.
type paper struct {
	looks, east, north vector
}

func (v vector) back() vector {
	return vector{-v[0], -v[1], -v[2]}
}

// over returns the square behind an edge, folded so that the inside stays the same.
func (p paper) over(dir byte) paper {
	switch dir {
	case 'n':
		return paper{p.north, p.east, p.looks.back()}
	case 's':
		return paper{p.north.back(), p.east, p.looks}
	case 'e':
		return paper{p.east, p.looks.back(), p.north}
	}
	return paper{p.east.back(), p.looks, p.north}
}

// folded returns where the squares look, the first one lying at the bottom. It fails if one cell would have to be in two places at once, or if two look to one side.
func (f figure) folded() (map[place]vector, bool) {
	first := f.places()[0]
	papers := map[place]paper{first: {down, east, north}}
	for queue := []place{first}; len(queue) > 0; queue = queue[1:] {
		for dir, step := range steps {
			to := place{queue[0].x + step.x, queue[0].y + step.y}
			if _, has := f[to]; !has {
				continue
			}
			next := papers[queue[0]].over(dir)
			if p, found := papers[to]; found && p != next {
				return nil, false
			} else if !found {
				papers[to] = next
				queue = append(queue, to)
			}
		}
	}
	looks := map[place]vector{}
	sides := map[vector]bool{}
	for at, p := range papers {
		looks[at] = p.looks
		sides[p.looks] = true
	}
	return looks, len(looks) == 6 && len(sides) == 6
}

// die returns the die to which a net folds.
func (f figure) die() impl.Die {
	looks, _ := f.folded()
	faces := make([]int, 6)
	for at, number := range f {
		faces[slices.Index(sides, looks[at])] = number
	}
	return dieOf(faces)
}

// letters returns the places of the faces of a net.
func (f figure) letters() string {
	looks, _ := f.folded()
	letters := ""
	for _, at := range f.places() {
		letters += string("tneswb"[slices.Index(sides, looks[at])])
	}
	return letters
}

// patterns returns all texts of so many columns and rows with six cells, which may hang together or not.
func patterns(columns int, rows int) []string {
	var texts []string
	for mask := range 1 << (columns * rows) {
		text := make([]byte, 0, columns*rows+rows)
		cells := 0
		for i := range columns * rows {
			if i > 0 && i%columns == 0 {
				text = append(text, '/')
			}
			if mask>>i&1 == 1 {
				text = append(text, 'o')
				cells++
			} else {
				text = append(text, '.')
			}
		}
		if cells == 6 {
			texts = append(texts, string(text))
		}
	}
	return texts
}

// filledWith returns a text with the digits of another one, one after the other, in place of its cells.
func filledWith(form string, digits string) string {
	for i := range len(digits) {
		form = strings.Replace(form, "o", digits[i:i+1], 1)
	}
	return form
}

// sixForms returns the cells of all sixes, as they lie.
var sixForms = sync.OnceValue(func() []string {
	var forms []string
	for columns := 1; columns <= 6; columns++ {
		for rows := 1; columns+rows <= 7; rows++ {
			for _, form := range patterns(columns, rows) {
				if isSix(filledWith(form, "000000")) {
					forms = append(forms, form)
				}
			}
		}
	}
	return forms
})

// netForms returns the cells of all nets, as they lie, and otherForms those of all sixes that are no nets.
var netForms = sync.OnceValue(func() []string {
	return slices.DeleteFunc(slices.Clone(sixForms()), func(form string) bool { return !isFolding(form) })
})

var otherForms = sync.OnceValue(func() []string {
	return slices.DeleteFunc(slices.Clone(sixForms()), isFolding)
})

func isFolding(form string) bool {
	_, ok := figureOf(filledWith(form, "000000")).folded()
	return ok
}

// netShapes returns the shapes of all nets, each once, in order.
func netShapes() []string {
	var shapes []string
	for _, form := range netForms() {
		shapes = append(shapes, figureOf(filledWith(form, "000000")).shape())
	}
	slices.Sort(shapes)
	return slices.Compact(shapes)
}

// fillings has numbers for the digits of sixes: different ones, the least and the greatest, equal ones, and all equal.
var fillings = strings.Fields("012345 123456 987654 905172 112233 121212 111112 090909 000000 999999")

// sampleNets returns all cells of nets with all fillings.
var sampleNets = sync.OnceValue(func() []string {
	var nets []string
	for _, form := range netForms() {
		for _, digits := range fillings {
			nets = append(nets, filledWith(form, digits))
		}
	}
	return nets
})

// wrongSixes returns texts that are no sixes.
func wrongSixes() []string {
	texts := strings.Fields(`/ // . 0 012345/ /012345 012//345 01/23/45/ /01/23/45 0/1/2/3/4/5/ 012/34. 012/34./5 .0../1234/.5. .0./1234/.5.. 0../1234/.5../.... 01234 0123456 01/23/4 01/23/45/6 .0../1234/.56. .0../1234/....
		.0../123./.5.. 0.1.2./.3.4.5 01.2345 012.345 0.1/.2./345 0../.12/345 01./2../..3/.45 012/.../345 01.23/...45 .012345 012345. ......./.012345 .0..../.1234./.5.... 01.2/34.5 0.1/2.3/4.5 ..0../..1../..2../..3../..4../..5..
		.0../12o4/.5.. .o../oooo/.o.. oooooo 01234x x12345 .0../1#34/.5.. #0##/1234/#5## 0123-4 -01234 +01234 012,345 01:2345 ٠12345 ٣٣٣٣٣٣ ０12345 012345· .0../1234\.5.. .0..|1234|.5..`)
	texts = append(texts, "", " 012345", "012345 ", "012345\n", "\n012345", ".0../1234/.5..\n", ".0../1234/.5../", "/.0../1234/.5..", ".0..//1234/.5..", ".0../1234/.5../....", "..../.0../1234/.5..", ".0...../1234.../.5.....", ".0../1234/.5..\x00", "01234\xff", "\xff", "012 345", "0.0.0.0.0.0")
	return append(texts, strings.Repeat("0", 5000), strings.Repeat(".", 5000), strings.Repeat("/", 5000), strings.Repeat("0/", 5000), strings.Repeat("o", 5000), strings.Repeat("o/", 6)+strings.Repeat(".", 5000), "012345"+strings.Repeat("/......", 5000), strings.Repeat("......../", 5000)+"..012345")
}

// wrongNets returns texts that are no nets: no sixes, and sixes that do not fold, with different numbers and with equal ones.
func wrongNets() []string {
	texts := wrongSixes()
	for i, form := range otherForms() {
		texts = append(texts, filledWith(form, "012345"), filledWith(form, fillings[i%len(fillings)]))
	}
	return texts
}

// wrongShapes returns texts that are no shapes of nets: nets and sixes with digits, shapes that are turned or mirrored, shapes of sixes that are no nets, and texts that are nothing.
func wrongShapes() []string {
	texts := strings.Fields("o oo ooooo ooooooo oooooooo o/o/o/o/o/o oo/oo/oo ooo/ooo .oo/oo. O OOOOOO 000000 ..0./0000/..0. ..o./oo0o/..o. ..o./oooo/..0. ..0./oooo/..o. ..o./oooo/..o./ /..o./oooo/..o. ..o./oooo/..o ..o./oooo/..o.. ..o./oooo/.... ..o./oooo/.oo. ..o./ooo./..o. ..o./oo.o/..o. ..x./oooo/..o. ..o.//oooo/..o. ..o./oooo/..o./.... ..o../oooo./..o.. ...o./.oooo/...o. #.o./oooo/..o.")
	texts = append(texts, "..o./oooo/..o.\n", " ..o./oooo/..o.", "..o./oooo/..o.\x00")
	for _, form := range sixForms() {
		if !slices.Contains(netShapes(), form) {
			texts = append(texts, form)
		}
	}
	for _, shape := range netShapes() {
		texts = append(texts, filledWith(shape, "000000"), filledWith(shape, "123456"), filledWith(shape, "1"), strings.ToUpper(shape), shape+"/", shape+".", shape+"o")
	}
	return append(texts, wrongSixes()...)
}
