package tests

import (
	"fmt"
	"math/rand"
	"slices"
	"strings"
	"testing"

	"loop.example/g01207/impl"
)

func TestPromise10ScriptExamples(t *testing.T) {
	expectScript(t, "tops ees\nprint ee\nroll e\ncan\nto 2 1 2\nroll n\nsame nn\nfly\n", deskOn(".../.#.", 1, 0, "521463"), []string{"1,5,6,2", "631/.#.", "1,0:521463", "ew", "es", "no", "nn", "what"}, []int{6, 8})
	expectScript(t, "", firstDesk(), nil, nil)
	expectScript(t, "\n", firstDesk(), []string{"what"}, []int{1})
	expectScript(t, "\n\n\n", firstDesk(), []string{"what", "what", "what"}, []int{1, 2, 3})
	expectScript(t, "state\n", firstDesk(), []string{"0,0:123456"}, nil)
	expectScript(t, "roll n\n", firstDesk(), []string{"no"}, []int{1})
	expectScript(t, "\nroll e\n\nstate\n\n", deskOn(".../.#.", 1, 0, "521463"), []string{"what", "1,0:521463", "what", "1,0:521463", "what"}, []int{1, 3, 5})
	expectScript(t, "turn\r\n turn\nturn \nturn\n", deskOn("../#./..", 1, 0, "152346"), []string{"what", "what", "what", "1,0:152346"}, []int{1, 2, 3})
}

// Lines that fail change nothing, and the lines behind them go on.
func TestPromise10LinesBehindFailedOnes(t *testing.T) {
	lines := [][2]string{
		{"turn", "1,0:152346"}, {"show", "../#./.."}, {"roll n", "no"}, {"roll sn", "1,0:152346"}, {"roll ss", "1,2:632541"}, {"roll wnn", "no"}, {"state", "1,2:632541"}, {"board . 1 0", "no"}, {"show", "../#./.."},
		{"board # 0 0", "no"}, {"board .# 0", "what"}, {"board .#/x. 0 0", "what"}, {"show", "../#./.."}, {"state", "1,2:632541"}, {"board .#./... 2 0", "2,0:632541"}, {"show", ".#./..."}, {"roll w", "no"}, {"can", "s"},
		{"die 11223", "what"}, {"die 1122334", "what"}, {"state", "2,0:632541"}, {"die 112233", "2,0:112233"}, {"least", "112233"}, {"die 332211", "2,0:332211"}, {"least", "112233"}, {"state", "2,0:332211"},
		{"", "what"}, {"Turn", "what"}, {"turn x", "what"}, {"tops sww", "3,3,2,2"}, {"tops swww", "no"}, {"state", "2,0:332211"}, {"reach", "5"}, {"board . 0 0", "0,0:332211"}, {"reach", "1"}, {"hard", "0"}, {"can", "-"}, {"roll e", "no"},
		{"at 0 0", "3"}, {"at 1 0", "no"}, {"to 0 0 3", "-"}, {"to 0 0 1", "no"}, {"cheap 0 0", "0 -"}, {"same nnn", "s"}, {"turn", "0,0:313221"}, {"turn", "0,0:321321"}, {"turn", "0,0:322131"}, {"turn", "0,0:332211"},
	}
	var script string
	var replies []string
	var failed []int
	for i, line := range lines {
		script += line[0] + "\n"
		replies = append(replies, line[1])
		if line[1] == "no" || line[1] == "what" {
			failed = append(failed, i+1)
		}
	}
	expectEqual(t, "lines are few enough", len(lines) <= 50, true)
	expectScript(t, script, deskOn(".", 0, 0, "332211"), replies, failed)
}

// fullScript returns so many lines of so many bytes together, newlines with them.
func fullScript(lines int, bytes int) string {
	var script strings.Builder
	for i := range lines {
		length := bytes/lines - 1
		if i < bytes%lines {
			length++
		}
		line := "tops " + planOf(".../.#.").longWalk(firstDesk().State, 60)
		script.WriteString(fmt.Sprintf("%-*.*s\n", length, length, line))
	}
	return script.String()
}

func TestPromise10LimitsOfScripts(t *testing.T) {
	for _, script := range []string{
		strings.Repeat("\n", 50), strings.Repeat("turn\n", 50), strings.Repeat("roll e\nroll w\n", 25), strings.Repeat("x", 2999) + "\n", strings.Repeat(" ", 2999) + "\n", "turn\n" + strings.Repeat("x", 2994) + "\n",
		fullScript(50, 3000), fullScript(50, 2999), fullScript(49, 3000), fullScript(46, 3000), fullScript(2, 3000), strings.Repeat("\n", 49) + strings.Repeat("x", 2950) + "\n",
	} {
		lines := strings.Split(strings.TrimSuffix(script, "\n"), "\n")
		want, replies, failed := scriptOn(lines)
		expectEqual(t, "bytes are few enough", len(script) <= 3000 && len(lines) <= 50, true)
		expectScript(t, script, want, replies, failed)
	}
	_, replies, _ := scriptOn(strings.Split(fullScript(50, 3000), "\n"))
	expectEqual(t, "a full script has lines that succeed", replies[0] != "what" && replies[49] == replies[0], true)
	for _, text := range []string{
		strings.Repeat("\n", 51), strings.Repeat("turn\n", 51), strings.Repeat("show\n", 600), strings.Repeat("\n", 3000), strings.Repeat("x", 3000) + "\n", "turn\n" + strings.Repeat("x", 2995) + "\n",
		fullScript(50, 3001), fullScript(51, 3000), fullScript(51, 2999), fullScript(46, 3001), fullScript(2, 3001), fullScript(1, 3001), fullScript(51, 3001), strings.Repeat("\n", 50) + "turn\n",
	} {
		expectNoScript(t, text)
	}
}

// Each line of a script ends with a newline, the last one too.
func TestPromise10ScriptsEndWithNewlines(t *testing.T) {
	for _, text := range []string{
		"turn", "x", " ", "\r", "\x00", "\xff", "turn\nturn", "turn\n ", "\nturn", "\n\nx", "turn\nshow", "turn\r", "turn\n\r", "turn\n\x00", strings.Repeat("x", 2999), strings.Repeat("x", 3000), strings.Repeat("\n", 49) + "x", strings.Repeat("\n", 50) + "x",
		strings.TrimSuffix(fullScript(50, 3000), "\n"), strings.TrimSuffix(fullScript(50, 3001), "\n"), strings.TrimSuffix(fullScript(51, 3000), "\n"), fullScript(49, 2950) + "x",
	} {
		expectNoScript(t, text)
	}
	for _, line := range rightLines() {
		expectNoScript(t, line)
		expectNoScript(t, "turn\n"+line)
		want, replies, failed := scriptOn([]string{line})
		expectScript(t, line+"\n", want, replies, failed)
	}
}

// scriptLines returns lines for scripts, those with an effect several times.
func scriptLines() []string {
	lines := []string{
		"board .../.#. 0 0", "board ../.. 1 1", "board ..#/... 0 1", "board . 0 0", "board .. 1 0", "board .#. 2 0", "board ../.. 2 0", "board ## 0 0", "board .../... 1 1", "board x 0 0",
		"die 123456", "die 654321", "die 111222", "die 900009", "die 12345", "to 0 0 1", "to 1 0 5", "to 1 1 2", "to 0 1 3", "to 2 0 6", "at 0 0", "at 1 1", "at 0 1", "at 3 3", "cheap 0 0", "cheap 1 1", "cheap 1 0", "cheap 2 0",
		"show", "state", "can", "reach", "hard", "least", "same nesw", "same nn", "same eeee", "", "fly", "roll", "turn turn", "tops N",
	}
	for _, word := range []string{"n", "e", "s", "w", "ee", "es", "nw", "eswn", "nsns", "wwee", "enws"} {
		lines = append(lines, "tops "+word, "print "+word, "labels "+word, "roll "+word, "roll "+word, "roll "+word, "turn")
	}
	return lines
}

// Scripts of lines that are chosen by chance; what the calls of their lines do, one after the other, is what they do.
func TestPromise10Scripts(t *testing.T) {
	random := rand.New(rand.NewSource(10))
	lines := scriptLines()
	desks := map[impl.Desk]bool{}
	for range 400 {
		var chosen []string
		for range random.Intn(51) {
			chosen = append(chosen, lines[random.Intn(len(lines))])
		}
		want, replies, failed := scriptOn(chosen)
		expectScript(t, scriptText(chosen), want, replies, failed)
		desks[want] = true
		d := impl.FirstDesk()
		for i, line := range chosen {
			next, reply, ok := impl.DeskLine(d, line)
			expectSuccess(t, "DeskLine "+line, reply, ok, replies[i])
			if slices.Contains(failed, i+1) {
				expectEqual(t, "desk behind "+line, next, d)
			}
			expectEqual(t, "IsDesk behind "+line, impl.IsDesk(next), true)
			d = next
		}
		expectEqual(t, "desk behind the lines", d, want)
	}
	expectEqual(t, "scripts come to many desks", len(desks) > 100, true)
}

// What lines name is what the functions of other chapters tell.
func TestPromise10CallsByName(t *testing.T) {
	for _, d := range sampleDesks() {
		b, s := d.Board, d.State
		for _, word := range []string{"e", "ss", "nw", "eswn", "wnes"} {
			end, ok := impl.RollAlong(b, s, word)
			expectCall(t, d, "roll "+word, fmt.Sprint(end.X, ",", end.Y, ":", digits(end.Die)), ok)
			tops, ok := impl.TopsAlong(b, s, word)
			expectCall(t, d, "tops "+word, withCommas(tops), ok)
			prints, ok := impl.PrintsAlong(b, s, word)
			expectCall(t, d, "print "+word, prints, ok)
			labels, ok := impl.LabelsOfWord(b, s, word)
			expectCall(t, d, "labels "+word, labels, ok)
			shortest, ok := impl.ShortestRolls(word)
			expectCall(t, d, "same "+word, orDash(shortest), ok)
		}
		for _, at := range planOf(b).places()[:min(4, len(planOf(b)))] {
			way, ok := impl.WayToTop(b, s, at.x, at.y, s.Die.North)
			expectCall(t, d, fmt.Sprint("to ", at.x, " ", at.y, " ", s.Die.North), orDash(way), ok)
			tops, ok := impl.TopsAt(b, s, at.x, at.y)
			expectCall(t, d, fmt.Sprint("at ", at.x, " ", at.y), withCommas(tops), ok)
			cheapest, cost, ok := impl.CheapestWay(b, s, at.x, at.y)
			expectCall(t, d, fmt.Sprint("cheap ", at.x, " ", at.y), fmt.Sprint(cost, " ", orDash(cheapest)), ok)
		}
		turned, ok := impl.TurnState(b, s)
		expectCall(t, d, "turn", fmt.Sprint(turned.X, ",", turned.Y, ":", digits(turned.Die)), ok)
		dirs, ok := impl.CanRoll(b, s)
		expectCall(t, d, "can", orDash(dirs), ok)
		count, ok := impl.CountReached(b, s)
		expectCall(t, d, "reach", fmt.Sprint(count), ok)
		_, length, ok := impl.HardestGoal(b, s)
		expectCall(t, d, "hard", fmt.Sprint(length), ok)
		least, ok := impl.LeastDie(s.Die)
		expectCall(t, d, "least", digits(least), ok)
	}
}

// expectCall checks that a line replies what a call has told, and no if it has failed.
func expectCall(t *testing.T, d impl.Desk, line string, told string, succeeded bool) {
	t.Helper()
	if !succeeded {
		told = "no"
	}
	_, reply, ok := impl.DeskLine(d, line)
	expectSuccess(t, fmt.Sprint("DeskLine ", d, " ", line), reply, ok, told)
}
