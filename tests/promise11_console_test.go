package tests

import (
	"fmt"
	"math"
	"slices"
	"strings"
	"testing"

	"loop.example/g01207/impl"
)

// deskReply is a desk and a reply.
type deskReply struct {
	desk  impl.Desk
	reply string
}

// wildDesks returns desks and what is none.
func wildDesks() []impl.Desk {
	var desks []impl.Desk
	for _, b := range wildBoards() {
		for _, s := range wayStates() {
			desks = append(desks, impl.Desk{Board: b, State: s})
		}
	}
	return append(desks, impl.Desk{}, deskOn(longBoard, 0, 4, "123456"), deskOn(".", math.MinInt, math.MaxInt, "000000"))
}

// wildLines returns lines and what is none, also such that fail in all ways.
func wildLines() []string {
	lines := append(rightLines(), wildTexts()...)
	for _, command := range []string{"board", "die", "roll", "tops", "to", "at", "cheap", "print", "labels", "same", "hard", "least"} {
		for _, rest := range []string{"", " ", " n", " -1 0", " 0 0", " 1 1", " 0 0 9", " 999999 999999", " 999999 0 999999", " . 999999 999999", " 9223372036854775807 -9223372036854775808 9223372036854775808", " \xff\xfe", " ü", " \x00", " / 0 0", " " + strings.Repeat("/", 2900), " " + strings.Repeat("n", 2900), " " + strings.Repeat("9", 2900), strings.Repeat(" ", 2990)} {
			lines = append(lines, command+rest)
		}
	}
	return append(lines, strings.Repeat("turn\n", 3), "\n", strings.Repeat("x", 3000), strings.Repeat("x", 3001), strings.Repeat(" ", 1<<16), strings.Repeat("\n", 1<<16))
}

// wildScripts returns scripts and what is none.
func wildScripts() []string {
	scripts := wildLines()
	for _, line := range wildLines() {
		scripts = append(scripts, line+"\n", "turn\n"+line+"\nstate\n", strings.Repeat(line+"\n", 50), line+"\r\n", "\n"+line)
	}
	hardest := "board " + floorBoard(6, 6) + " 0 0\n" + strings.Repeat("hard\n", 49)
	return append(scripts, "", strings.Repeat("\n", 50), strings.Repeat("\n", 51), fullScript(50, 3000), fullScript(50, 3001), hardest, strings.Repeat("turn\n", 1<<14))
}

// outcomesOfDesk calls each function whose argument is a desk, the one without arguments with it.
func outcomesOfDesk(t *testing.T, d impl.Desk, line string) []string {
	what := fmt.Sprintf("%.200v %.200q", d, line)
	return []string{
		outcome(t, "FirstDesk", func() (impl.Desk, bool) { return impl.FirstDesk(), true }),
		outcome(t, "IsDesk "+what, alone(func() bool { return impl.IsDesk(d) })),
		outcome(t, "DeskLine "+what, func() (deskReply, bool) {
			next, reply, ok := impl.DeskLine(d, line)
			return deskReply{next, reply}, ok
		}),
	}
}

// outcomesOfScript calls each function whose argument is a script.
func outcomesOfScript(t *testing.T, s string) []string {
	what := fmt.Sprintf("%.200q", s)
	return []string{
		outcome(t, "RunScript "+what, func() ([]string, bool) { return impl.RunScript(s) }),
		outcome(t, "DeskAfter "+what, func() (impl.Desk, bool) { return impl.DeskAfter(s) }),
		outcome(t, "FailedLines "+what, func() ([]int, bool) { return impl.FailedLines(s) }),
	}
}

// allConsoleOutcomes calls all six functions with all wild arguments.
func allConsoleOutcomes(t *testing.T) []string {
	var out []string
	lines := wildLines()
	for i, d := range wildDesks() {
		isDesk := impl.IsDesk(d)
		for k, line := range lines {
			if isDesk || (i+k)%41 == 0 {
				out = append(out, outcomesOfDesk(t, d, line)...)
			}
		}
	}
	for _, s := range wildScripts() {
		out = append(out, outcomesOfScript(t, s)...)
	}
	return out
}

// The outcomes do not change from call to call, and lines that raise their refusals do not panic.
func TestPromise11ConsoleAllArguments(t *testing.T) {
	expectSameOutcomes(t, allConsoleOutcomes)
}

func TestPromise11ConsoleArgumentsAreKept(t *testing.T) {
	lines, scripts := wildLines(), wildScripts()
	for i, d := range append(sampleDesks(), wildDesks()...) {
		line, script := lines[i%len(lines)], scripts[i%len(scripts)]
		kept, keptBoard, keptLine, keptScript := d, strings.Clone(d.Board), strings.Clone(line), strings.Clone(script)
		outcomesOfDesk(t, d, line)
		outcomesOfScript(t, script)
		if d != kept || d.Board != keptBoard || line != keptLine || script != keptScript {
			t.Errorf("an argument was modified: %.200v %.200q %.200q", d, line, script)
		}
	}
}

func TestPromise11ConsoleResultsAreNew(t *testing.T) {
	for _, s := range []string{"fly\n", "turn\nroll n\nshow\nfly\n", strings.Repeat("\n", 50), fullScript(7, 3000)} {
		expectNew(t, "RunScript "+s, func() ([]string, bool) { return impl.RunScript(s) })
		expectNew(t, "FailedLines "+s, func() ([]int, bool) { return impl.FailedLines(s) })
	}
}

// A script starts at the first desk, whatever was executed before, and a line on the desk that is given.
func TestPromise11ConsoleHasNoMemory(t *testing.T) {
	desks, lines, scripts := sampleDesks(), rightLines(), wildScripts()
	outcomesAt := func(i int) []string {
		return append(outcomesOfDesk(t, desks[i%len(desks)], lines[i%len(lines)]), outcomesOfScript(t, scripts[i%len(scripts)])...)
	}
	count := max(len(desks), len(lines), len(scripts))
	var forwards, backwards [][]string
	for i := range count {
		forwards = append(forwards, outcomesAt(i))
	}
	for i := range count {
		backwards = append(backwards, outcomesAt(count-1-i))
	}
	slices.Reverse(backwards)
	expectEqual(t, "outcomes forwards and backwards", slices.EqualFunc(forwards, backwards, slices.Equal[[]string]), true)
}
