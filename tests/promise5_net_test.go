package tests

import (
	"fmt"
	"slices"
	"strings"
	"testing"

	"loop.example/g01207/impl"
)

func TestPromise5IsSix(t *testing.T) {
	for _, s := range strings.Fields("012345 0/1/2/3/4/5 000000 9/9/9/9/9/9 01/23/45 012/345 .0../1234/.5.. 0..../12345 01../.234/...5 000/.0./00. ..012/345.. 0.1/234/5.. 0.1/2.3/4.5") {
		expectEqual(t, "IsSix "+s, impl.IsSix(s), s != "0.1/2.3/4.5")
	}
	for _, s := range wrongSixes() {
		expectEqual(t, fmt.Sprintf("no six %.60q", s), isSix(s), false)
		expectEqual(t, fmt.Sprintf("IsSix %.60q", s), impl.IsSix(s), false)
	}
	for _, form := range sixForms() {
		for _, digits := range fillings {
			expectEqual(t, "IsSix "+filledWith(form, digits), impl.IsSix(filledWith(form, digits)), true)
		}
	}
	expectEqual(t, "as they lie, there are so many sixes", len(sixForms()), 216)
}

// All ways to lay six digits, also such that do not hang together, or by corners only, and such with rows and columns without a digit.
func TestPromise5IsSixOfAllPatterns(t *testing.T) {
	tried := map[bool]int{}
	for columns := 1; columns <= 7; columns++ {
		for rows := 1; rows <= 7 && columns*rows <= 16; rows++ {
			for i, form := range patterns(columns, rows) {
				s := filledWith(form, fillings[i%len(fillings)])
				expectEqual(t, "IsSix "+s, impl.IsSix(s), isSix(s))
				tried[isSix(s)]++
			}
		}
	}
	expectEqual(t, "all sixes and many others are tried", tried[true] == 216 && tried[false] > 20000, true)
}

func TestPromise5IsSixOfAllShortTexts(t *testing.T) {
	texts := []string{""}
	for next := 0; len(texts[next]) < 8; next++ {
		for _, sign := range []string{".", "/", "7"} {
			texts = append(texts, texts[next]+sign)
		}
	}
	for _, s := range texts {
		expectEqual(t, fmt.Sprintf("IsSix %q", s), impl.IsSix(s), isSix(s))
	}
}

func TestPromise5IsSixOfAllSigns(t *testing.T) {
	for _, s := range []string{".0../1234/.5..", "012345", "01/.23/..4"} {
		for i := range s {
			for c := range 256 {
				changed := s[:i] + string([]byte{byte(c)}) + s[i+1:]
				expectEqual(t, fmt.Sprintf("IsSix %q", changed), impl.IsSix(changed), isSix(changed))
				inserted := s[:i] + string([]byte{byte(c)}) + s[i:]
				expectEqual(t, fmt.Sprintf("IsSix %q", inserted), impl.IsSix(inserted), isSix(inserted))
			}
		}
	}
}

func TestPromise5IsNet(t *testing.T) {
	for s, want := range map[string]bool{
		".0../1234/.5..": true, "..012/345..": true, "...0/1234/5...": true, "0../12./.34/..5": true, "0../12./.34/..5/": false, "01../.23./..45": true, "000../..000": true, "777./..7./..77": false,
		"012345": false, "01/23/45": false, "012/345": false, "01../.2../.34./..5.": false, "0.1/234/5..": false, "0000/0..0": false, "01234/5....": false, "0123/4..5": false, "9999/.99.": false,
	} {
		expectEqual(t, "IsNet "+s, impl.IsNet(s), want)
	}
	for _, s := range sampleNets() {
		expectEqual(t, "IsNet "+s, impl.IsNet(s), true)
	}
	for _, s := range wrongNets() {
		expectEqual(t, fmt.Sprintf("IsNet %.60q", s), impl.IsNet(s), false)
	}
	expectEqual(t, "as they lie, there are so many nets, and other sixes", fmt.Sprint(len(netForms()), len(otherForms())), "64 152")
}

// Whatever way a die takes over a six that is no net, going back and forth, it does not lie on each digit with another face when it comes there first.
func TestPromise5NoOtherWayOfRolling(t *testing.T) {
	for _, form := range sixForms() {
		f := figureOf(filledWith(form, "000000"))
		expectEqual(t, "a way over "+form, liesDifferently(f), isFolding(form))
	}
}

// liesDifferently reports whether some way over a figure comes to each of its cells with another face at first.
func liesDifferently(f figure) bool {
	type node struct {
		at  place
		die impl.Die
		lay string
	}
	first := node{f.places()[0], die("123456"), "6......"}
	seen := map[node]bool{first: true}
	for queue := []node{first}; len(queue) > 0; queue = queue[1:] {
		from := queue[0]
		if !strings.Contains(from.lay[:6], ".") {
			return true
		}
		for dir, step := range steps {
			to := node{place{from.at.x + step.x, from.at.y + step.y}, movedDie(from.die, rollMatrices[dir]), from.lay}
			i := slices.Index(f.places(), to.at)
			if i < 0 {
				continue
			}
			if face := string('0' + byte(to.die.Bottom)); to.lay[i] == '.' {
				if strings.Contains(to.lay, face) {
					continue
				}
				to.lay = to.lay[:i] + face + to.lay[i+1:]
			}
			if !seen[to] {
				seen[to] = true
				queue = append(queue, to)
			}
		}
	}
	return false
}

func TestPromise5FoldNet(t *testing.T) {
	for s, want := range map[string]string{".0../1234/.5..": "543210", "...6/.254/31..": "123456", "..631/254..": "123456", ".7../7777/.7..": "777777", ".0../1122/.0..": "022110"} {
		d, ok := impl.FoldNet(s)
		expectEqual(t, "FoldNet "+s, d, die(want))
		expectEqual(t, "FoldNet succeeds", ok, true)
	}
	for _, s := range sampleNets() {
		d, ok := impl.FoldNet(s)
		expectEqual(t, "FoldNet "+s, d, figureOf(s).die())
		expectEqual(t, "FoldNet succeeds", ok, true)
	}
}

func TestPromise5PlacesOfNet(t *testing.T) {
	for s, want := range map[string]string{".0../1234/.5..": "bwsent", ".9../9999/.9..": "bwsent", "...6/.254/31..": "bnwset", "..631/254..": "betnws", "3/34/.56/..7": ""} {
		letters, ok := impl.PlacesOfNet(s)
		expectEqual(t, "PlacesOfNet "+s, letters, want)
		expectEqual(t, "PlacesOfNet succeeds", ok, want != "")
	}
	for _, s := range sampleNets() {
		letters, ok := impl.PlacesOfNet(s)
		expectEqual(t, "PlacesOfNet "+s, letters, figureOf(s).letters())
		expectEqual(t, "PlacesOfNet succeeds", ok, true)
	}
}

// A die that rolls on the shortest way to each digit of a net lies there on the face that its letter tells.
func TestPromise5RollsComeToThePlaces(t *testing.T) {
	for _, s := range sampleNets() {
		d, _ := impl.FoldNet(s)
		letters, _ := impl.PlacesOfNet(s)
		f := figureOf(s)
		floor := plan{}
		for at := range f {
			floor[at] = true
		}
		board := strings.Map(func(sign rune) rune {
			switch sign {
			case '.':
				return '#'
			case '/':
				return '/'
			}
			return '.'
		}, s)
		first := f.places()[0]
		for i, at := range f.places() {
			word, ok := impl.WayToCell(board, impl.State{X: first.x, Y: first.y, Die: d}, at.x, at.y)
			expectEqual(t, "a way over "+s, ok, true)
			way := floor.walk(impl.State{X: first.x, Y: first.y, Die: d}, word)
			expectEqual(t, "the bottom on a digit of "+s, way[len(way)-1].Die.Bottom, f[at])
			marked, _ := impl.RollWord(die("012345"), word)
			expectEqual(t, "the place on a digit of "+s, "tneswb"[marked.Bottom], letters[i])
		}
	}
}

// netCalls are the functions of one net, each made to tell its result as a text that is empty for a zero value.
var netCalls = map[string]func(s string) (string, bool){
	"FoldNet":     func(s string) (string, bool) { d, ok := impl.FoldNet(s); return shown(d), ok },
	"PlacesOfNet": impl.PlacesOfNet,
	"ShapeOfNet":  impl.ShapeOfNet,
	"TurnNet":     impl.TurnNet,
	"MirrorNet":   impl.MirrorNet,
	"KeptEdges":   func(s string) (string, bool) { edges, ok := impl.KeptEdges(s); return strings.Join(edges, ","), ok },
	"FoldOrder": func(s string) (string, bool) {
		order, ok := impl.FoldOrder(s)
		return strings.Trim(fmt.Sprint(order), "[]"), ok
	},
	"LongestRow": func(s string) (string, bool) { longest, ok := impl.LongestRow(s); return shown(longest), ok },
	"AreSameDie": func(s string) (string, bool) { same, ok := impl.AreSameDie(s, s); return shown(same), ok },
	"AreSameDie with a net": func(s string) (string, bool) {
		same, ok := impl.AreSameDie(s, ".0../1234/.5..")
		return shown(same), ok
	},
	"AreSameDie of a net": func(s string) (string, bool) {
		same, ok := impl.AreSameDie(".0../1234/.5..", s)
		return shown(same), ok
	},
}

func TestPromise5TextsThatAreNoNets(t *testing.T) {
	for name, call := range netCalls {
		for _, s := range wrongNets() {
			got, ok := call(s)
			expectFailure(t, fmt.Sprintf("%s %.60q", name, s), got, ok)
		}
	}
}

func TestPromise5TurnNet(t *testing.T) {
	for s, want := range map[string]string{".0../1234/.5..": ".1./520/.3./.4.", "..631/254..": "2./5./46/.3/.1", "01../.23./..45": "..0/.21/43./5.."} {
		got, ok := impl.TurnNet(s)
		expectEqual(t, "TurnNet "+s, got, want)
		expectEqual(t, "TurnNet succeeds", ok, true)
	}
	for _, s := range sampleNets() {
		got, ok := impl.TurnNet(s)
		expectEqual(t, "TurnNet "+s, got, figureOf(s).turned().text(false))
		expectEqual(t, "TurnNet succeeds", ok, true)
		folded, ok := impl.FoldNet(got)
		expectEqual(t, "the turned net folds "+s, ok, true)
		expectEqual(t, "rolls make the die of the turned net "+s, slices.Contains(waysInSpace(figureOf(s).die()), folded), true)
		for range 3 {
			got, _ = impl.TurnNet(got)
		}
		expectEqual(t, "four quarters turn back "+s, got, s)
	}
}

func TestPromise5MirrorNet(t *testing.T) {
	for s, want := range map[string]string{".0../1234/.5..": "..0./4321/..5.", "..631/254..": "136../..452", "01../.23./..45": "..10/.32./54.."} {
		got, ok := impl.MirrorNet(s)
		expectEqual(t, "MirrorNet "+s, got, want)
		expectEqual(t, "MirrorNet succeeds", ok, true)
	}
	for _, s := range sampleNets() {
		got, ok := impl.MirrorNet(s)
		expectEqual(t, "MirrorNet "+s, got, figureOf(s).mirrored().text(false))
		expectEqual(t, "MirrorNet succeeds", ok, true)
		folded, ok := impl.FoldNet(got)
		expectEqual(t, "the mirrored net folds "+s, ok, true)
		expectEqual(t, "rolls make the die of the mirrored net "+s, slices.Contains(waysInSpace(mirroredDie(figureOf(s).die())), folded), true)
		back, _ := impl.MirrorNet(got)
		expectEqual(t, "the mirror of the mirror "+s, back, s)
	}
}

func mirroredDie(d impl.Die) impl.Die {
	d.East, d.West = d.West, d.East
	return d
}

func TestPromise5AreSameDie(t *testing.T) {
	for _, c := range []struct {
		s, t string
		want bool
	}{
		{".0../1234/.5..", ".1./520/.3./.4.", true}, {".0../1234/.5..", "..0./4321/..5.", false}, {".0../1234/.5..", ".0../1235/.4..", false}, {".0../1234/.5..", ".0../2341/.5..", true}, {".0../1234/.5..", ".0../4321/.5..", false},
		{".7../7777/.7..", "777../..777", true}, {".1../2231/.3..", "..1./1322/..3.", false}, {".1../2345/.1..", "..1./5432/..1.", true}, {".1../1111/.2..", "111../..211", true}, {".1../1111/.2..", ".1../1111/.1..", false},
	} {
		got, ok := impl.AreSameDie(c.s, c.t)
		expectEqual(t, fmt.Sprint("AreSameDie ", c), got, c.want)
		expectEqual(t, "AreSameDie succeeds", ok, true)
	}
	tried := map[bool]int{}
	nets := sampleNets()
	for i := 0; i < len(nets); i += 3 {
		for k := i % 7; k < len(nets); k += 7 {
			want := slices.Contains(waysInSpace(figureOf(nets[i]).die()), figureOf(nets[k]).die())
			got, ok := impl.AreSameDie(nets[i], nets[k])
			expectEqual(t, fmt.Sprint("AreSameDie ", nets[i], " ", nets[k]), got, want)
			expectEqual(t, "AreSameDie succeeds", ok, true)
			tried[want]++
		}
	}
	expectEqual(t, "same dice and others are tried", tried[true] > 1000 && tried[false] > 1000, true)
}

// A net and the same one with its rows backwards fold to the same die exactly if this is not handed.
func TestPromise5AreSameDieOfMirroredNets(t *testing.T) {
	tried := map[bool]int{}
	for _, s := range sampleNets() {
		mirrored := figureOf(s).mirrored().text(false)
		want := slices.Contains(waysInSpace(figureOf(s).die()), mirroredDie(figureOf(s).die()))
		got, ok := impl.AreSameDie(s, mirrored)
		expectEqual(t, fmt.Sprint("AreSameDie ", s, " ", mirrored), got, want)
		expectEqual(t, "AreSameDie succeeds", ok, true)
		tried[want]++
	}
	expectEqual(t, "handed dice and others are tried", tried[true] > 100 && tried[false] > 100, true)
}

func TestPromise5KeptEdges(t *testing.T) {
	for s, want := range map[string]string{".0../1234/.5..": "bs ws se st en", "...6/.254/31..": "bs nw nt ws et", "..631/254..": "be bs et nw ws", ".0../0000/.0..": "bs ws se st en"} {
		edges, ok := impl.KeptEdges(s)
		expectList(t, "KeptEdges "+s, edges, ok, strings.Fields(want))
	}
	for _, s := range sampleNets() {
		f := figureOf(s)
		letters := f.letters()
		var want []string
		for i, a := range f.places() {
			for j, b := range f.places() {
				if a.y == b.y && b.x == a.x+1 || a.x == b.x && b.y == a.y+1 {
					want = append(want, string(letters[i])+string(letters[j]))
				}
			}
		}
		edges, ok := impl.KeptEdges(s)
		expectList(t, "KeptEdges "+s, edges, ok, want)
		expectEqual(t, "five edges stay whole", len(edges), 5)
	}
}

func TestPromise5CountFaceTrees(t *testing.T) {
	expectEqual(t, "CountFaceTrees", impl.CountFaceTrees(), 384)
	var edges [][2]int
	for i, a := range sides {
		for j, b := range sides[:i] {
			if a != b.back() {
				edges = append(edges, [2]int{i, j})
			}
		}
	}
	trees := 0
	for mask := range 1 << len(edges) {
		groups := []int{0, 1, 2, 3, 4, 5}
		joined := 0
		for i, edge := range edges {
			if from, to := groups[edge[0]], groups[edge[1]]; mask>>i&1 == 1 {
				joined++
				for k := range groups {
					if groups[k] == from {
						groups[k] = to
					}
				}
			}
		}
		if joined == 5 && len(slices.Compact(groups)) == 1 {
			trees++
		}
	}
	expectEqual(t, "CountFaceTrees by trying all", impl.CountFaceTrees(), trees)
}

func TestPromise5FoldOrder(t *testing.T) {
	for s, want := range map[string][]int{".0../1234/.5..": {0, 2, 1, 2, 3, 2}, "...6/.254/31..": {0, 3, 2, 1, 5, 4}, "..631/254..": {0, 1, 2, 3, 2, 1}, "0.../0000/...0": {0, 1, 2, 3, 4, 5}, "5../555/..5/..5": nil, "..11/1111": nil} {
		order, ok := impl.FoldOrder(s)
		if want == nil {
			expectNoList(t, "FoldOrder "+s, order, ok)
			continue
		}
		expectList(t, "FoldOrder "+s, order, ok, want)
	}
	for _, s := range sampleNets() {
		f := figureOf(s)
		var want []int
		for _, at := range f.places() {
			want = append(want, f.reached()[at])
		}
		order, ok := impl.FoldOrder(s)
		expectList(t, "FoldOrder "+s, order, ok, want)
	}
}

// Words that come to a digit on other ways, back and forth, are never shorter than FoldOrder tells, and one is as short.
func TestPromise5FoldOrderOfAllWords(t *testing.T) {
	words := allWords(5)
	for _, form := range netForms() {
		f := figureOf(filledWith(form, "000000"))
		floor := plan{}
		for at := range f {
			floor[at] = true
		}
		places := f.places()
		least, times := make([]int, 6), make([]int, 6)
		for _, word := range words {
			way := floor.walk(state(places[0].x, places[0].y, "000000"), word)
			if len(way) <= len(word) {
				continue
			}
			last := way[len(word)]
			i := slices.Index(places, place{last.X, last.Y})
			if times[i] == 0 {
				least[i] = len(word)
			}
			times[i]++
		}
		order, ok := impl.FoldOrder(filledWith(form, "000000"))
		expectList(t, "FoldOrder "+form, order, ok, least)
		expectEqual(t, "some digit is reached in more than one way", slices.Max(times) > 1, true)
	}
}

func TestPromise5LongestRow(t *testing.T) {
	for s, want := range map[string]int{".0../1234/.5..": 4, ".1./520/.3./.4.": 4, "...6/.254/31..": 3, "..631/254..": 3, "2./5./46/.3/.1": 3, "01../.23./..45": 2, "..0/.21/43./5..": 2, "012345": 0, "01234/...5.": 0, "0/1/2/3/4/5": 0} {
		longest, ok := impl.LongestRow(s)
		expectEqual(t, "LongestRow "+s, longest, want)
		expectEqual(t, "LongestRow succeeds", ok, want > 0)
	}
	for _, s := range sampleNets() {
		want := 0
		f := figureOf(s)
		for at := range f {
			for _, dir := range []byte("es") {
				count := 0
				for next, has := at, true; has; _, has = f[next] {
					count++
					next = place{next.x + steps[dir].x, next.y + steps[dir].y}
				}
				want = max(want, count)
			}
		}
		longest, ok := impl.LongestRow(s)
		expectEqual(t, "LongestRow "+s, longest, want)
		expectEqual(t, "LongestRow succeeds", ok, true)
	}
}
