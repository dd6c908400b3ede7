package tests

import (
	"fmt"
	"maps"
	"regexp"
	"slices"
	"strconv"
	"strings"
	"sync"
	"testing"

	"loop.example/g00307/impl"
)

// The constants have no kind of their own, so that they go with any number.
const (
	_ float64 = impl.MaxBench
	_ uint8   = impl.MaxLines
)

// formOf is a whole line; in it N is a number, W a word, which may have no byte, and ALL whatever is left.
func formOf(line string) *regexp.Regexp {
	parts := strings.NewReplacer("N", `(0|-?[1-9][0-9]{0,8})`, "W", `([^ ]*)`, "ALL", `(.*)`)
	return regexp.MustCompile(`(?s)\A` + parts.Replace(line) + `\z`)
}

// benchForms are the lines of the table, where the program counts words.
var benchForms = map[string]*regexp.Regexp{
	"rules": formOf("rules N W ALL"), "set": formOf("set N W W"), "put": formOf("put N W W W"), "gone": formOf("gone N W"),
	"tell": formOf("tell N N"), "around": formOf("around"), "tick": formOf("tick"), "step": formOf("step N"),
	"ask": formOf("ask N W W"), "packed": formOf("packed ALL"), "times": formOf("times N"),
}

func benchNumber(word string) int64 {
	n, _ := strconv.ParseInt(word, 10, 64)
	return n
}

// benchAct is what is done of a line that is one Act, by what stands in its form.
func benchAct(word string, w []string) impl.Act {
	n := benchNumber(w[0])
	switch word {
	case "rules":
		return write(n, "root", "acl/"+w[1], w[2])
	case "set":
		return write(n, "root", "svc/"+w[1], w[2])
	case "put":
		return write(n, w[1], "svc/"+w[2], w[3])
	case "gone":
		return revoke(n, "root", "svc/"+w[1])
	case "tell":
		return tell(n, benchNumber(w[1]))
	case "ask":
		return askOf(n, impl.Query{Source: n, Token: w[1], Name: w[2], Type: impl.TyA, Size: 500})
	}
	return stepOf(n)
}

func yesByWords(is bool) string { return map[bool]string{true: "yes", false: "no"}[is] }

func askedLine(c impl.Cluster, at int64, answer impl.Answer) string {
	texts := "-"
	for i, r := range answer.Records {
		if i == 0 {
			texts = r.Text
		} else {
			texts += "," + r.Text
		}
	}
	deed, _ := impl.DeedOf(c.Nodes[at], impl.MaxTime)
	return fmt.Sprintf("%d %s %s", answer.Code, texts, yesByWords(impl.Secure(impl.DsOf(deed), deed, answer, c.Now)))
}

// actLine calls the chapters' own functions for a line that is one Act.
func actLine(c impl.Cluster, word string, w []string) (impl.Cluster, string) {
	a := benchAct(word, w)
	next, answer, ok := impl.Happen(c, a)
	switch {
	case !ok:
		return c, "error"
	case word == "ask":
		return next, askedLine(next, a.Node, answer)
	}
	return next, "ok"
}

// lineByWords is one line on a Cluster that is right: what it leaves behind, and its answer.
func lineByWords(c impl.Cluster, line string) (impl.Cluster, string) {
	word, _, _ := strings.Cut(line, " ")
	form, known := benchForms[word]
	if !known || !form.MatchString(line) {
		return c, "error"
	}
	w := form.FindStringSubmatch(line)[1:]
	switch word {
	case "around":
		next := impl.Settled(c)
		return next, yesByWords(impl.Agreed(groupOf(next)))
	case "tick":
		next, _, _ := impl.Happen(c, tickAct)
		return next, fmt.Sprint(next.Now)
	case "packed":
		if packed := impl.Packed(strings.Split(w[0], " ")); packed != "" {
			return c, fmt.Sprint(len(packed))
		}
		return c, "error"
	case "times":
		if p, ok := impl.Times(benchNumber(w[0]), impl.Base()); ok {
			return c, fmt.Sprint(p.X, p.Y)
		}
		return c, "error"
	}
	return actLine(c, word, w)
}

// benchLinesOf counts the bytes 10, and one line more where the text goes on behind the last one.
func benchLinesOf(text string) []string {
	many := strings.Count(text, "\n")
	if text != "" && text[len(text)-1] != '\n' {
		many++
	}
	return strings.SplitN(text+"\n", "\n", many+1)[:many]
}

// benchByWords also tells what the Cluster is at the end.
func benchByWords(text string) (string, impl.Cluster) {
	c, _ := impl.NewCluster("zone", 2)
	lines, out := benchLinesOf(text), ""
	if len(text) > 20000 || len(lines) > 200 {
		return "", c
	}
	for _, line := range lines {
		if len(line) > 0 {
			next, answer := lineByWords(c, line)
			c, out = next, out+answer+"\n"
		}
	}
	return out, c
}

// askBench holds an answer against the second reading, and wants just one line of it for each line that has a byte.
func askBench(t *testing.T, text string) string {
	t.Helper()
	got := impl.Bench(text)
	want, _ := benchByWords(text)
	if got != want {
		t.Fatalf("Bench(%.3000q) is %.3000q, not %.3000q", text, got, want)
	}
	full := 0
	for _, line := range benchLinesOf(text) {
		full += min(1, len(line))
	}
	if want != "" && (strings.Count(got, "\n") != full || got[len(got)-1] != '\n') {
		t.Fatalf("of %d lines come %d: %q, %q", full, strings.Count(got, "\n"), text, got)
	}
	return got
}

// askLines wants each line that stands ahead of an arrow to be answered by what stands behind it.
func askLines(t *testing.T, pairs ...string) {
	t.Helper()
	text, want := "", ""
	for _, pair := range pairs {
		line, answer, ok := strings.Cut(pair, " => ")
		if !ok {
			t.Fatalf("no answer: %q", pair)
		}
		text, want = text+line+"\n", want+answer+"\n"
	}
	got := askBench(t, text)
	lines, answers, wants := strings.Split(text, "\n"), strings.Split(got, "\n"), strings.Split(want, "\n")
	for i := range min(len(answers), len(wants)) {
		if answers[i] != wants[i] {
			t.Fatalf("line %d, %q: %q, not %q\n%s", i, lines[i], answers[i], wants[i], text)
		}
	}
	if got != want {
		t.Fatalf("%q, not %q", got, want)
	}
}

// answerBehind is what a line is answered behind others.
func answerBehind(t *testing.T, ahead []string, line string) string {
	t.Helper()
	got := askBench(t, strings.Join(append(slices.Clone(ahead), line), "\n"))
	answers := strings.Split(strings.TrimSuffix(got, "\n"), "\n")
	return answers[len(answers)-1]
}

// askEachBehind wants each line, alone behind the same others, to be answered so.
func askEachBehind(t *testing.T, ahead []string, wants map[string]string) {
	t.Helper()
	for line, want := range wants {
		if got := answerBehind(t, ahead, line); got != want {
			t.Errorf("%q: %q, not %q", line, got, want)
		}
	}
}

func ticks(n int) []string { return slices.Repeat([]string{"tick"}, n) }

// A benchDrawer draws lines: most of them right, some of them at the edges, some wrong.
type benchDrawer struct{ draw func(int) int }

func (d benchDrawer) of(list ...string) string { return list[d.draw(len(list))] }

var oddNumbers = []string{"", "2", "-1", "-0", "00", "01", "+1", "0x1", "1_0", "1.", "a", "1a", "a1", "999999999", "1000000000", "-999999999", "-1000000000", "9223372036854775808", "0\x00", "\x80"}

func (d benchDrawer) node() string {
	if d.draw(15) == 0 {
		return d.of(oddNumbers...)
	}
	return d.of("0", "1")
}

func (d benchDrawer) token() string {
	if d.draw(12) == 0 {
		return d.of("", "Ann", "an1", "nobody", "a.b", strings.Repeat("a", 12), strings.Repeat("a", 13), strings.Repeat("a", 36), strings.Repeat("a", 37), "\xff")
	}
	return d.of("ann", "ann", "bob", "cid", "root")
}

func (d benchDrawer) name() string {
	if d.draw(12) == 0 {
		return d.of("", "A", ".", "a.", "a..b", "zone", "a.zone", strings.Repeat("a", 12), strings.Repeat("a", 13), strings.Repeat("b", 36), strings.Repeat("b", 37), "a.b.c.d.e.f", "\x00", "\xff\r")
	}
	return d.of("a", "b", "b.c", "c", "a.a", "n"+fmt.Sprint(d.draw(40)))
}

func (d benchDrawer) value() string {
	if d.draw(8) == 0 {
		return d.of("", "-", ",", "yes", "error", "\t", "\x00", "\xff\xfe", strings.Repeat("v", 40), strings.Repeat("v", 41), strings.Repeat("v", 500))
	}
	return fmt.Sprint(d.draw(100))
}

func (d benchDrawer) rules() string {
	if d.draw(8) == 0 {
		return d.of("", " ", "no", "rw", "r- svc/ ", " r- svc/", "r-  svc/", "rw svc/b r- svc/a", "r- "+strings.Repeat("a", 37), "r- "+strings.Repeat("a", 38), strings.Repeat("r- a ", 100))
	}
	return d.of(append([]string{"r- svc/", "rw svc/", "-w svc/"}, auditTexts...)...)
}

func (d benchDrawer) asked() string {
	if d.draw(6) == 0 {
		return d.of("", "zone", "zone", "zone", "a", "zone.", ".zone", "azone", "A.zone", "x.zone", "a.b.c.d.e.zone", "a.b.c.d.e.f.zone", "\x00.zone")
	}
	return d.name() + ".zone"
}

func (d benchDrawer) names() string {
	list := []string{}
	many := 1 + d.draw(5)
	if d.draw(6) == 0 {
		many = 18 + d.draw(4)
	}
	for range many {
		list = append(list, d.of("a", "b", "a.b", "c.a.b", "b.c", "zone", "a.zone", "", d.asked()))
	}
	return strings.Join(list, " ")
}

func (d benchDrawer) right() string {
	switch d.draw(20) {
	case 0, 1:
		return "rules " + d.node() + " " + d.token() + " " + d.rules()
	case 2, 3:
		return "set " + d.node() + " " + d.name() + " " + d.value()
	case 4, 5:
		return "put " + d.node() + " " + d.token() + " " + d.name() + " " + d.value()
	case 6:
		return "gone " + d.node() + " " + d.name()
	case 7, 8:
		return "tell " + d.node() + " " + d.node()
	case 9:
		return d.of("around", "step "+d.node())
	case 10:
		return "packed " + d.names()
	case 11:
		return "times " + d.of(d.node(), fmt.Sprint(d.draw(3000)))
	case 12:
		return "tick"
	}
	return "ask " + d.node() + " " + d.token() + " " + d.asked()
}

// changed is a line with one thing about it that is mostly wrong.
func (d benchDrawer) changed(line string) string {
	at := d.draw(len(line) + 1)
	switch d.draw(10) {
	case 0:
		return line + " "
	case 1:
		return " " + line
	case 2:
		return line + " x"
	case 3:
		return strings.Replace(line, " ", "  ", 1)
	case 4:
		return strings.ToUpper(line)
	case 5:
		return line[:at]
	case 6:
		return line[at:]
	case 7:
		return line[:at] + d.of("\x00", "\t", "\r", "\x7f", "\x80", "\xff", " ", "0", "-") + line[at:]
	case 8:
		return line[:strings.LastIndex(" "+line, " ")]
	}
	return d.of("what", "", "", "ok", "error", "0", "-", "set", "ask 0", "rules 0 ann", "packed", "tick 1", "around 0")
}

func (d benchDrawer) line() string {
	line := d.right()
	if d.draw(8) == 0 {
		return d.changed(line)
	}
	return line
}

// lines begin with rules that mostly let the Tokens do something; of 10 further ones so many are ticks.
func (d benchDrawer) lines(n, ticks int) []string {
	list := []string{}
	for _, token := range []string{"ann", "bob", "cid"} {
		list = append(list, "rules "+d.of("0", "1")+" "+token+" "+d.of("rw svc/", d.rules()))
	}
	for len(list) < n {
		if d.draw(10) < ticks {
			list = append(list, "tick")
		} else {
			list = append(list, d.line())
		}
	}
	return list[:n]
}

// countLines tells of each word how often it was done, and of each ask how it was answered.
func countLines(counts map[string]int, lines []string, out string) {
	answers := strings.Split(out, "\n")
	for _, line := range lines {
		if line == "" {
			counts["a line without a byte"]++
			continue
		}
		word, _, _ := strings.Cut(line, " ")
		if _, known := benchForms[word]; !known {
			word = "no word"
		}
		counts[fmt.Sprint(word, " ", answers[0] != "error")]++
		if word == "ask" {
			counts["Code "+answers[0][:1]]++
		}
		answers = answers[1:]
	}
}

func TestBenchKnown(t *testing.T) {
	if impl.MaxBench != 20000 || impl.MaxLines != 200 {
		t.Fatal(impl.MaxBench, impl.MaxLines)
	}
	askLines(t,
		"rules 0 ann r- svc/ => ok", "set 0 a 1.2 => ok", "ask 0 ann a.zone => 0 1.2 yes", "ask 0 ann b.zone => 1 - yes",
		"ask 0 ann zone => 2 - yes", "ask 0 ann a => 3 - yes", "ask 0 bob a.zone => 4 - yes", "ask 0 ann a.zone => 5 - no",
		"ask 1 ann a.zone => 4 - yes", "tell 0 1 => ok", "ask 1 ann a.zone => 0 1.2 yes", "put 1 ann a 3 => error", "put 1 root a 3 => ok",
		"ask 1 ann a.zone => 0 3 yes", "tick => 1", "ask 0 ann a.zone => 0 1.2 yes", "around => yes", "tick => 2", "ask 0 ann a.zone => 0 3 yes",
		"gone 1 a => ok", "ask 1 ann a.zone => 1 - yes", "tick => 3", "ask 0 ann a.zone => 0 3 yes", "tell 1 0 => ok", "tick => 4", "ask 0 ann a.zone => 1 - yes",
		"step 0 => error", "packed a.b b c.a.b => 11", "times 5 => 7405 8341", "what => error", "tell 0 0 => error", "tick => 5",
	)
}

// Promise 20: of drawn texts each line is answered as the chapters tell, and the answers to the first lines are the first of all.
func TestPromise20DrawnTexts(t *testing.T) {
	t.Parallel()
	counts := map[string]int{}
	for run := range 280 {
		d := benchDrawer{drawFrom(uint32(20000 + run))}
		lines := d.lines(1+d.draw(200), []int{0, 1, 3, 5}[run%4])
		if run%3 == 0 {
			lines = slices.Concat(d.lines(40, 0), ticks(95+d.draw(8)), d.lines(58, 1))
		}
		text := strings.Join(lines, "\n") + d.of("", "\n")
		out := askBench(t, text)
		countLines(counts, benchLinesOf(text), out)
		for range 6 {
			n := d.draw(len(lines) + 1)
			if first := askBench(t, strings.Join(lines[:n], "\n")); !strings.HasPrefix(out, first) {
				t.Fatalf("the first %d lines of %q are answered %q, all of them %q", n, text, first, out)
			}
		}
	}
	for word := range benchForms {
		askCounts(t, counts, 20, word+" true", word+" false")
	}
	askCounts(t, counts, 100, "Code 0", "Code 1", "Code 2", "Code 3", "Code 4", "Code 5", "no word false", "a line without a byte")
}

// Promise 20: one by one, whatever comes behind.
func TestPromise20EachFirstPart(t *testing.T) {
	t.Parallel()
	for run := range 4 {
		d := benchDrawer{drawFrom(uint32(20300 + run))}
		lines := d.lines(200, 2)
		out := askBench(t, strings.Join(lines, "\n"))
		for n := range len(lines) {
			first := impl.Bench(strings.Join(lines[:n], "\n"))
			full := len(slices.DeleteFunc(slices.Clone(lines[:n]), func(line string) bool { return line == "" }))
			if !strings.HasPrefix(out, first) || strings.Count(first, "\n") != full {
				t.Fatalf("the first %d lines of %q are answered %q, all of them %q", n, lines, first, out)
			}
		}
	}
}

// Promise 20: in whatever order the same lines come, each is answered by what was ahead of it alone.
func TestPromise20InEachOrder(t *testing.T) {
	t.Parallel()
	few := []string{"set 0 a 1", "put 1 ann a 2", "gone 0 a", "tell 0 1", "tell 1 0", "around", "ask 0 ann a.zone", "ask 1 ann a.zone"}
	seen := map[string]int{}
	for i := range 8 * 8 * 8 * 8 {
		middle := []string{few[i%8], few[i/8%8], few[i/64%8], few[i/512]}
		lines := slices.Concat([]string{"rules 0 ann rw svc/", "tell 0 1"}, middle, []string{"ask 0 ann a.zone", "ask 1 ann a.zone", "ask 1 bob a.zone"})
		seen[askBench(t, strings.Join(lines, "\n"))]++
	}
	if len(seen) < 50 {
		t.Errorf("only %d answers", len(seen))
	}
}

// What is answered by error leaves the cluster as it was: a text without these lines is answered by the other answers.
func TestBenchErrorsLeaveNothing(t *testing.T) {
	t.Parallel()
	errors := 0
	for run := range 150 {
		d := benchDrawer{drawFrom(uint32(20400 + run))}
		lines := slices.DeleteFunc(d.lines(200, run%3), func(line string) bool { return line == "" })
		answers := strings.SplitAfter(askBench(t, strings.Join(lines, "\n")), "\n")
		kept, want := []string{}, ""
		for i, line := range lines {
			if answers[i] == "error\n" {
				errors++
				continue
			}
			kept, want = append(kept, line), want+answers[i]
		}
		if got := askBench(t, strings.Join(kept, "\n")); got != want {
			t.Fatalf("without what is wrong %q is answered %q, not %q", lines, got, want)
		}
	}
	if errors < 2000 {
		t.Errorf("only %d errors", errors)
	}
}

// noLines are all answered by error wherever they stand in the story below.
var noLines = []string{
	"what", "Set 0 a 9", "SET 0 a 9", " set 0 a 9", "set  0 a 9", "set 0 a 9 ", "set 0 a", "set 0", "set", "set 0 a 9 9", "set 2 a 9", "set -1 a 9", "set x a 9", "set 00 a 9",
	"set 0 a " + strings.Repeat("v", 41), "set 0 " + strings.Repeat("b", 37) + " 9",
	"rules 0 ann", "rules 0", "rules", "rules 2 ann rw ", "rules x ann rw ", "rules 0 ann " + strings.Repeat("v", 41), "rules 0 " + strings.Repeat("a", 37) + " rw ",
	"put 0 ann a", "put 0 ann a 9 9", "put 0 ann a 9", "put 0 nobody a 9", "put 2 root a 9", "put 0 Root a 9",
	"gone 0", "gone 0 a 9", "gone 0 a ", "gone 2 a", "gone x a", "gone 0 " + strings.Repeat("b", 37),
	"tell 0 0", "tell 1 1", "tell 0 2", "tell 2 0", "tell 0 -1", "tell -1 0", "tell 0 x", "tell x 0", "tell 0", "tell", "tell 0 1 1", "tell 0 1 ", "tell 01 1",
	"around 0", "around ", " around", "Around", "tick 1", "tick ", "tick 0", " tick", "ticks", "tic",
	"step 0", "step 1", "step 2", "step -1", "step x", "step", "step ", "step 0 0",
	"ask 2 ann a.zone", "ask -1 ann a.zone", "ask x ann a.zone", "ask 0 ann", "ask 0", "ask", "ask 0 ann a.zone ", "ask 0 ann a.zone b.zone",
	"packed", "packed A", "packed a .", "packed" + strings.Repeat(" a", 21), "times", "times x", "times -1", "times 1 1", "times 1 ", "times 1000000000", "\x00", "\t", "\r", "\xff",
}

var benchStory = []string{
	"rules 0 ann r- svc/", "set 0 a 1", "ask 0 ann a.zone", "tell 0 1", "ask 1 ann a.zone", "set 1 a 2", "ask 0 ann a.zone", "around", "ask 0 ann a.zone", "tick", "gone 0 a", "ask 0 ann a.zone", "ask 1 ann a.zone", "tell 0 1", "ask 1 ann a.zone", "tick",
}

// Each wrong line, at each place of one story: it is answered by error, and all others as without it.
func TestBenchErrorsAtEachPlace(t *testing.T) {
	t.Parallel()
	answers := strings.SplitAfter(askBench(t, strings.Join(benchStory, "\n")), "\n")
	for _, wrong := range noLines {
		for at := range len(benchStory) + 1 {
			lines := slices.Insert(slices.Clone(benchStory), at, wrong)
			want := strings.Join(slices.Insert(slices.Clone(answers), at, "error\n"), "")
			if got := askBench(t, strings.Join(lines, "\n")); got != want {
				t.Fatalf("%q at %d: %q, not %q", wrong, at, got, want)
			}
		}
	}
}

// On the bench, from the first line to the last: one sees what its rules let it see, signed, and that there is nothing is signed, too.
func TestBenchOneSeesWhatItMay(t *testing.T) {
	askLines(t,
		"rules 0 ann r- svc/ -- svc/b => ok", "rules 0 bob -- svc/ r- svc/b => ok", "set 0 a 10.0.0.1 => ok", "set 0 b 10.0.0.2 => ok", "set 0 c.b 3 => ok",
		"ask 0 ann a.zone => 0 10.0.0.1 yes", "ask 0 ann b.zone => 1 - yes", "ask 0 ann c.b.zone => 0 3 yes", "ask 0 ann x.zone => 1 - yes", "tick => 1", "tick => 2", "tick => 3", "tick => 4", "tick => 5",
		"ask 0 bob a.zone => 1 - yes", "ask 0 bob b.zone => 0 10.0.0.2 yes", "ask 0 bob c.b.zone => 1 - yes", "ask 0 bob zone => 2 - yes", "ask 0 cid b.zone => 4 - yes",
	)
}

// Another Node knows when it is told, not ahead of it; who tells hears nothing.
func TestBenchWhoIsToldKnows(t *testing.T) {
	askLines(t,
		"rules 0 ann r- svc/ => ok", "set 0 a 1 => ok", "ask 1 ann a.zone => 4 - yes", "rules 1 ann r- svc/ => ok", "ask 1 ann a.zone => 1 - yes",
		"tell 1 0 => ok", "ask 1 ann a.zone => 1 - yes", "set 1 b 2 => ok", "ask 0 ann b.zone => 1 - yes", "tell 0 1 => ok", "ask 1 ann a.zone => 0 1 yes",
		"ask 0 ann b.zone => 1 - yes", "tell 1 0 => ok", "ask 0 ann b.zone => 0 2 yes", "tell 1 0 => ok", "ask 0 ann b.zone => 0 2 yes",
	)
}

// After around both know the same, of each thing the newest.
func TestBenchAfterAround(t *testing.T) {
	asks := []string{"ask 0 ann a.zone", "ask 1 ann a.zone", "ask 0 ann b.zone", "ask 1 ann b.zone", "ask 0 ann c.zone", "ask 1 ann c.zone"}
	lines := []string{"rules 1 ann r- svc/", "set 0 a 1", "set 1 a 2", "set 1 a 3", "set 0 b 4", "gone 1 c", "set 0 c 5"}
	around := slices.Concat(lines, []string{"around"}, asks)
	want := "ok\nok\nok\nok\nok\nok\nok\nyes\n0 3 yes\n0 3 yes\n0 4 yes\n0 4 yes\n1 - yes\n1 - yes\n"
	if got := askBench(t, strings.Join(around, "\n")); got != want {
		t.Errorf("%q", got)
	}
	told := slices.Concat(lines, []string{"tell 0 1", "tell 1 0"}, asks)
	if got := askBench(t, strings.Join(told, "\n")); got != strings.Replace(want, "yes\n", "ok\nok\n", 1) {
		t.Errorf("%q", got)
	}
	askLines(t, "around => yes", "around => yes", "set 0 a 1 => ok", "around => yes", "around => yes", "tick => 1", "around => yes")
}

// Promise 20: drawn texts end with both Nodes asked for the same, behind around, and are answered the same.
func TestBenchBothKnowTheSame(t *testing.T) {
	t.Parallel()
	found := 0
	for run := range 60 {
		d := benchDrawer{drawFrom(uint32(20600 + run))}
		lines := append(d.lines(150, 0), "around", "tick", "tick", "tick", "tick", "tick")
		for _, name := range []string{"a", "b", "b.c", "c", "n1"} {
			lines = append(lines, "ask 0 ann "+name+".zone", "ask 1 ann "+name+".zone")
		}
		answers := strings.Split(askBench(t, strings.Join(lines, "\n")), "\n")
		last := answers[len(answers)-11 : len(answers)-1]
		for i := 0; i < len(last); i += 2 {
			if last[i] != last[i+1] {
				t.Fatalf("%q, but %q: %q", last[i], last[i+1], lines)
			}
			if last[i][0] == '0' {
				found++
			}
		}
	}
	if found < 30 {
		t.Errorf("only %d were found", found)
	}
}

// What is revoked is revoked at each Node that is told, rules and names.
func TestBenchRevoked(t *testing.T) {
	askLines(t,
		"rules 0 ann rw svc/ => ok", "set 0 a 1 => ok", "around => yes", "put 1 ann b 2 => ok", "rules 0 ann -- svc/ => ok", "put 0 ann b 3 => error", "put 1 ann b 4 => ok", "ask 1 ann b.zone => 0 4 yes",
		"ask 0 ann a.zone => 1 - yes", "tell 0 1 => ok", "put 1 ann b 5 => error", "ask 1 ann b.zone => 1 - yes", "ask 1 ann a.zone => 1 - yes", "tell 1 0 => ok", "put 0 ann b 6 => error",
		"rules 1 ann no => ok", "ask 1 ann a.zone => 4 - yes", "ask 0 ann a.zone => 1 - yes", "tell 1 0 => ok", "ask 0 ann a.zone => 4 - yes",
	)
	askLines(t,
		"rules 0 ann r- svc/ => ok", "set 0 a 1 => ok", "around => yes", "gone 1 a => ok", "ask 0 ann a.zone => 0 1 yes", "ask 1 ann a.zone => 1 - yes",
		"tell 0 1 => ok", "ask 1 ann a.zone => 1 - yes", "tell 1 0 => ok", "ask 0 ann a.zone => 1 - yes", "tell 0 1 => ok", "ask 1 ann a.zone => 1 - yes",
	)
}

func TestBenchRules(t *testing.T) {
	asks := func(rules string) string {
		return answerBehind(t, []string{"set 0 a 1", "rules 0 ann" + rules}, "ask 0 ann a.zone")
	}
	for rules, want := range map[string]string{
		" r- svc/": "0 1 yes", " r- ": "0 1 yes", " rw svc/a": "0 1 yes", " -w svc/a": "1 - yes", " r- svc/b": "1 - yes",
		" -- svc/ r- svc/a": "0 1 yes", " r- svc/ -- svc/a": "1 - yes", " r-  -- svc/a": "1 - yes", " --  r- svc/ r- svc/a rw svc/a.": "0 1 yes", " ": "1 - yes",
		"": "4 - yes", " no": "4 - yes", " rw": "4 - yes", "  r- svc/": "4 - yes", " r- svc/ ": "4 - yes", " r-  svc/": "4 - yes", " w- svc/": "4 - yes", " r- svc/b r- svc/a": "4 - yes", "  ": "4 - yes", " r- svc/\x7f": "4 - yes",
		" r- " + strings.Repeat("a", 37): "1 - yes", " r- " + strings.Repeat("a", 38): "4 - yes", " " + strings.Repeat("v", 40): "4 - yes",
	} {
		if got := asks(rules); got != want {
			t.Errorf("%q: %q, not %q", rules, got, want)
		}
	}
	askEachBehind(t, nil, map[string]string{
		"rules 0 ann r- svc/": "ok", "rules 1 ann r- svc/": "ok", "rules 0 ann r- svc/ rw svc/a": "ok", "rules 0 ann ": "ok", "rules 0 ann  ": "ok", "rules 0 ann no": "ok", "rules 0 ann r- svc/ ": "ok",
		"rules 0 ann " + strings.Repeat("v", 40): "ok", "rules 0 ann " + strings.Repeat("v", 41): "error", "rules 0 ann " + strings.Repeat(" ", 40): "ok", "rules 0 ann " + strings.Repeat(" ", 41): "error",
		"rules 0 ANN r- svc/": "ok", "rules 0 a1 r- svc/": "ok", "rules 0 root r- svc/": "ok", "rules 0  r- svc/": "ok", "rules 0 " + strings.Repeat("a", 13) + " r- svc/": "ok",
		"rules 0 " + strings.Repeat("a", 36) + " r- svc/": "ok", "rules 0 " + strings.Repeat("a", 37) + " r- svc/": "error",
		"rules 0 ann": "error", "rules 0 ": "error", "rules 0": "error", "rules ": "error", "rules": "error", "rules ann r- svc/": "error", "rules 2 ann r- svc/": "error", "rules -1 ann r- svc/": "error", " rules 0 ann r- svc/": "error", "rules  0 ann r- svc/": "error",
	})
}

// A TOKEN that is none can be written of, but nothing is let to it.
func TestBenchTokens(t *testing.T) {
	for _, token := range []string{"ANN", "a1", "a.b", "ann\r", "\xff", "-", strings.Repeat("a", 13), strings.Repeat("a", 36), ""} {
		ahead := []string{"set 0 a 1", "rules 0 " + token + " rw svc/"}
		askEachBehind(t, ahead, map[string]string{"ask 0 " + token + " a.zone": "4 - yes", "put 0 " + token + " a 2": "error"})
	}
	for _, token := range []string{"a", "z", "ann", "svc", "acl", "zone", strings.Repeat("z", 12)} {
		ahead := []string{"set 0 a 1", "rules 0 " + token + " rw svc/"}
		askEachBehind(t, ahead, map[string]string{"ask 0 " + token + " a.zone": "0 1 yes", "put 0 " + token + " a 2": "ok", "ask 0 " + token + "z a.zone": "4 - yes", "ask 1 " + token + " a.zone": "4 - yes"})
	}
	askEachBehind(t, []string{"set 0 a 1"}, map[string]string{"ask 0 root a.zone": "4 - yes", "put 0 root a 2": "ok"})
	askEachBehind(t, []string{"set 0 a 1", "rules 0 root -- svc/"}, map[string]string{"ask 0 root a.zone": "1 - yes", "put 0 root a 2": "ok", "set 0 a 2": "ok"})
}

// The VALUE that is told is the very one that was set or put; none and no blank is a word too few.
func TestBenchValues(t *testing.T) {
	values := []string{"1", "", "-", ",", "a,b", "10.0.0.1", "yes", "error", "\x00", "\t", "\r", "\x7f", "\x80", "\xff", "é", strings.Repeat("v", 40)}
	for _, how := range []string{"set 0 a ", "put 0 root a ", "put 0 ann a "} {
		for _, value := range values {
			ahead := []string{"rules 0 ann rw svc/", "set 0 a before", how + value}
			if got, want := answerBehind(t, ahead, "ask 0 ann a.zone"), "0 "+value+" yes"; got != want {
				t.Errorf("%q: %q, not %q", how+value, got, want)
			}
			if got := answerBehind(t, ahead[:2], how+value); got != "ok" {
				t.Errorf("%q: %q", how+value, got)
			}
		}
		for _, wrong := range []string{how[:len(how)-1], how + strings.Repeat("v", 41), how + "1 2", how + " 1", how + "1 ", how + " ", how + strings.Repeat("v", 5000)} {
			ahead := []string{"rules 0 ann rw svc/", "set 0 a before"}
			if got := answerBehind(t, ahead, wrong); got != "error" {
				t.Errorf("%q: %q", wrong, got)
			}
			if got := answerBehind(t, append(ahead, wrong), "ask 0 ann a.zone"); got != "0 before yes" {
				t.Errorf("behind %q: %q", wrong, got)
			}
		}
	}
}

// Put by a TOKEN that may write, that may read alone, that has no rules, by root.
func TestBenchPut(t *testing.T) {
	ahead := []string{"rules 0 ann rw svc/", "rules 0 bob r- svc/", "rules 0 cid -w svc/b", "rules 0 eve no", "rules 0 fay ", "set 0 a 1", "set 0 b 1"}
	askEachBehind(t, ahead, map[string]string{
		"put 0 ann a 2": "ok", "put 0 ann new 2": "ok", "put 0 bob a 2": "error", "put 0 cid a 2": "error", "put 0 cid b 2": "ok", "put 0 cid bb 2": "ok", "put 0 dan a 2": "error", "put 0 eve a 2": "error", "put 0 fay a 2": "error",
		"put 0 root a 2": "ok", "put 1 root a 2": "ok", "put 1 ann a 2": "error", "put 2 ann a 2": "error", "put 2 root a 2": "error", "put 0 ROOT a 2": "error", "put 0 roo a 2": "error", "put 0 roott a 2": "error", "put 0  a 2": "error",
		"put 0 ann a": "error", "put 0 ann": "error", "put 0": "error", "put": "error", "put ann a 2": "error", "put 0 ann a 2 ": "error",
	})
	askLines(t,
		"rules 0 ann rw svc/ => ok", "rules 0 bob r- svc/ => ok", "put 0 bob a 1 => error", "ask 0 ann a.zone => 1 - yes", "put 0 ann a 2 => ok", "ask 0 bob a.zone => 0 2 yes",
		"put 1 ann a 3 => error", "tell 0 1 => ok", "put 1 ann a 3 => ok", "tell 1 0 => ok", "ask 0 bob a.zone => 0 3 yes",
	)
}

// A NAME that is no name can be written, but nobody sees it; a Key that is too long can't.
func TestBenchNames(t *testing.T) {
	rights := []string{"a", "z-9", "a.b", "a.b.c.d.e", "zone", strings.Repeat("a", 12), strings.Repeat("abcdefghi.", 3) + "abcdef"}
	for _, name := range rights {
		ahead := []string{"rules 0 ann rw svc/", "set 0 " + name + " 1"}
		askEachBehind(t, ahead[:1], map[string]string{"set 0 " + name + " 1": "ok", "put 0 ann " + name + " 1": "ok", "gone 0 " + name: "ok"})
		askEachBehind(t, ahead, map[string]string{"ask 0 ann " + name + ".zone": "0 1 yes", "ask 0 ann q.zone": "1 - yes", "ask 0 ann " + name: map[bool]string{true: "2 - yes", false: "3 - yes"}[name == "zone"]})
	}
	for _, name := range []string{"A", ".", "a.", ".a", "a..b", "a/b", "*", "a\r", "\x00", "\xff", strings.Repeat("a", 13), strings.Repeat("b", 36)} {
		ahead := []string{"rules 0 ann rw svc/", "set 0 " + name + " 1"}
		askEachBehind(t, ahead[:1], map[string]string{"set 0 " + name + " 1": "ok", "put 0 ann " + name + " 1": "ok", "gone 0 " + name: "ok"})
		askEachBehind(t, ahead, map[string]string{"ask 0 ann " + name + ".zone": "3 - yes", "ask 0 ann zone": "2 - yes"})
	}
	long := strings.Repeat("b", 37)
	askEachBehind(t, []string{"rules 0 ann rw svc/"}, map[string]string{
		"set 0 " + long + " 1": "error", "put 0 ann " + long + " 1": "error", "put 0 root " + long + " 1": "error", "gone 0 " + long: "error",
		"set 0  1": "ok", "put 0 ann  1": "ok", "put 0 root  1": "ok", "gone 0 ": "ok", "set 0 ": "error", "put 0 ann ": "error", "gone 0": "error",
	})
	askLines(t, "rules 0 ann r- svc/ => ok", "set 0  1 => ok", "ask 0 ann .zone => 3 - yes", "ask 0 ann zone => 2 - yes", "set 0 a.b.c.d.e.f 1 => ok", "ask 0 ann a.b.c.d.e.f.zone => 3 - yes", "ask 0 ann f.zone => 1 - yes")
}

func TestBenchGone(t *testing.T) {
	askLines(t,
		"rules 0 ann rw svc/ => ok", "gone 0 a => ok", "ask 0 ann a.zone => 1 - yes", "set 0 a 1 => ok", "ask 0 ann a.zone => 0 1 yes", "gone 0 a b => error", "gone 0 a  => error", "gone 1 a => ok", "tick => 1",
		"ask 0 ann a.zone => 0 1 yes", "gone 0 a => ok", "tick => 2", "ask 0 ann a.zone => 1 - yes", "gone 0 a => ok", "ask 0 ann a.zone => 1 - yes", "put 0 ann a 2 => ok", "ask 0 ann a.zone => 0 2 yes", "gone 2 a => error", "gone -1 a => error",
	)
}

func TestBenchTell(t *testing.T) {
	ahead := []string{"rules 0 ann r- svc/", "rules 1 bob r- svc/", "set 0 a 1", "set 1 b 2"}
	askEachBehind(t, ahead, map[string]string{
		"tell 0 1": "ok", "tell 1 0": "ok", "tell 0 0": "error", "tell 1 1": "error", "tell 0 2": "error", "tell 2 0": "error", "tell 1 2": "error", "tell 2 1": "error", "tell 2 2": "error", "tell 0 -1": "error", "tell -1 0": "error", "tell -1 -1": "error",
		"tell 0 b": "error", "tell a 1": "error", "tell 0 ": "error", "tell  1": "error", "tell  ": "error", "tell 0": "error", "tell": "error", "tell 0 1 0": "error", "tell 0  1": "error", "tell 0 01": "error", "tell -0 1": "error",
	})
	for _, wrong := range []string{"tell 0 0", "tell 1 1", "tell 0 2", "tell 2 1", "tell -1 1", "tell 0 x"} {
		told := append(slices.Clone(ahead), wrong)
		askEachBehind(t, told, map[string]string{"ask 1 ann a.zone": "4 - yes", "ask 0 bob b.zone": "4 - yes", "ask 0 ann a.zone": "0 1 yes", "ask 1 bob b.zone": "0 2 yes"})
	}
}

func TestBenchAroundAndTick(t *testing.T) {
	for _, wrong := range []string{"around ", "around 0", "around x", " around", "around  ", "arounds", "AROUND", "around\r"} {
		askEachBehind(t, []string{"rules 0 ann r- svc/", "set 0 a 1", wrong}, map[string]string{"ask 1 ann a.zone": "4 - yes"})
		askEachBehind(t, nil, map[string]string{wrong: "error"})
	}
	for _, wrong := range []string{"tick ", "tick 0", "tick 1", "tick x", " tick", "ticktick", "Tick", "tick\r", "tick tick"} {
		askEachBehind(t, []string{"tick"}, map[string]string{wrong: "error"})
		askEachBehind(t, []string{"tick", wrong}, map[string]string{"tick": "2"})
	}
	want := ""
	for i := range 200 {
		want += fmt.Sprintln(i + 1)
	}
	if got := askBench(t, strings.Join(ticks(200), "\n")); got != want {
		t.Errorf("%q", got)
	}
}

// Step before its time, at it and behind it, of each Node, and how what is asked behind it is signed.
func TestBenchStep(t *testing.T) {
	for _, n := range []int{0, 1, 50, 98, 99, 100, 101, 150, 198} {
		want := "error"
		if n >= 100 {
			want = "ok"
		}
		askEachBehind(t, ticks(n), map[string]string{"step 0": want, "step 1": want, "step 2": "error", "step -1": "error", "step x": "error", "step": "error", "step ": "error", "step 0 ": "error", "step 0 0": "error", "step 00": "error"})
	}
	ahead := slices.Concat([]string{"rules 0 ann r- svc/", "set 0 a 1", "around"}, ticks(100), []string{"ask 0 ann a.zone", "ask 1 ann b.zone"})
	askEachBehind(t, append(ahead, "step 0"), map[string]string{"step 0": "error", "step 1": "ok", "ask 0 ann a.zone": "0 1 yes", "ask 0 ann b.zone": "1 - yes", "ask 1 ann a.zone": "0 1 yes", "ask 1 bob b.zone": "4 - yes"})
	askEachBehind(t, append(ahead, "step 1", "step 0", "tick"), map[string]string{"step 0": "error", "step 1": "error", "ask 0 ann a.zone": "0 1 yes", "ask 1 ann a.zone": "0 1 yes", "ask 1 ann zone": "2 - yes"})
	askEachBehind(t, slices.Concat(ticks(100), []string{"step 0"}, ticks(90)), map[string]string{"step 0": "error", "step 1": "ok"})
}

// Ask: each Code, by the name, by the TOKEN, by the Node.
func TestBenchAsk(t *testing.T) {
	ahead := []string{"rules 0 ann r- svc/", "rules 0 eve no", "rules 0 fay ", "set 0 a 1", "set 0 b.c 2", "set 0 d "}
	askEachBehind(t, ahead, map[string]string{
		"ask 0 ann a.zone": "0 1 yes", "ask 0 ann b.c.zone": "0 2 yes", "ask 0 ann d.zone": "0  yes", "ask 0 ann c.zone": "1 - yes", "ask 0 ann x.a.zone": "1 - yes", "ask 0 ann zzz.zone": "1 - yes", "ask 0 ann a.b.c.d.e.zone": "1 - yes", "ask 0 ann zone": "2 - yes",
		"ask 0 ann a": "3 - yes", "ask 0 ann a.zones": "3 - yes", "ask 0 ann azone": "3 - yes", "ask 0 ann zone.a": "3 - yes", "ask 0 ann .zone": "3 - yes", "ask 0 ann zone.": "3 - yes", "ask 0 ann A.zone": "3 - yes", "ask 0 ann a.ZONE": "3 - yes", "ask 0 ann *.zone": "3 - yes", "ask 0 ann ": "3 - yes", "ask 0 ann \xff.zone": "3 - yes", "ask 0 ann a.b.c.d.e.f.zone": "3 - yes", "ask 0 nobody a": "3 - yes",
		"ask 0 bob a.zone": "4 - yes", "ask 0 eve a.zone": "4 - yes", "ask 0 Ann a.zone": "4 - yes", "ask 0  a.zone": "4 - yes", "ask 0 annn a.zone": "4 - yes", "ask 1 ann a.zone": "4 - yes", "ask 0 root zone": "4 - yes", "ask 0 bob zone": "4 - yes", "ask 0 " + strings.Repeat("a", 50) + " a.zone": "4 - yes",
		"ask 0 fay a.zone": "1 - yes", "ask 0 fay zone": "2 - yes",
		"ask 2 ann a.zone": "error", "ask -1 ann a.zone": "error", "ask 99 ann a.zone": "error", "ask ann a.zone": "error", "ask 0 a.zone": "error", "ask 0 ann": "error", "ask 0 ann a.zone ": "error", "ask 0 ann  a.zone": "error", "ask 0 ann a.zone b.c.zone": "error", "ask 0": "error", "ask": "error", "ask  ": "error",
	})
}

// So many that nothing is left for that Source, whatever they are; each Node is its own Source, and one more comes each tick.
func TestBenchAskUntilStill(t *testing.T) {
	kinds := map[string]string{"ask 0 ann a.zone": "0 1 yes", "ask 0 ann b.zone": "1 - yes", "ask 0 ann zone": "2 - yes", "ask 0 ann a": "3 - yes", "ask 0 bob a.zone": "4 - yes", "ask 0 ann .": "3 - yes"}
	for line, want := range kinds {
		pairs := []string{"rules 0 ann r- svc/ => ok", "set 0 a 1 => ok", "tell 0 1 => ok"}
		for range 5 {
			pairs = append(pairs, line+" => "+want)
		}
		pairs = append(pairs, line+" => 5 - no", "ask 0 ann a.zone => 5 - no", "ask 0 bob . => 5 - no", "ask 1 ann a.zone => 0 1 yes", "ask 2 ann a.zone => error", "set 0 a 2 => ok", "around => yes")
		pairs = append(pairs, line+" => 5 - no", "tick => 1", "ask 0 ann a.zone => 0 2 yes", line+" => 5 - no", "tick => 2", "tick => 3", "ask 0 ann a.zone => 0 2 yes", "ask 0 ann zone => 2 - yes", "ask 0 ann zone => 5 - no")
		for i := range 9 {
			pairs = append(pairs, fmt.Sprint("tick => ", i+4))
		}
		for range 5 {
			pairs = append(pairs, "ask 0 ann a.zone => 0 2 yes")
		}
		askLines(t, append(pairs, "ask 0 ann a.zone => 5 - no")...)
	}
}

// Yes or no by Secure: no comes of what is no answer alone.
func TestBenchSecure(t *testing.T) {
	t.Parallel()
	seen := map[string]int{}
	for run := range 60 {
		d := benchDrawer{drawFrom(uint32(20700 + run))}
		lines := d.lines(60, 0)
		if run%3 == 0 {
			lines = slices.Concat(d.lines(40, 0), ticks(100), []string{"step 0", "step 1"}, d.lines(58, 2))
		}
		answers := strings.Split(askBench(t, strings.Join(lines, "\n")), "\n")
		for _, line := range slices.DeleteFunc(lines, func(line string) bool { return line == "" }) {
			if strings.HasPrefix(line, "ask ") && answers[0] != "error" {
				seen[answers[0][:1]+answers[0][strings.LastIndex(answers[0], " "):]]++
			}
			answers = answers[1:]
		}
	}
	want := []string{"0 yes", "1 yes", "2 yes", "3 yes", "4 yes", "5 no"}
	if got := slices.Sorted(maps.Keys(seen)); !slices.Equal(got, want) {
		t.Errorf("%v", seen)
	}
}

// There is room for 80 Keys in all, whichever Node has them; what is Gone keeps its place.
func TestBenchNoRoom(t *testing.T) {
	full := []string{"rules 0 ann rw svc/"}
	for i := range 79 {
		full = append(full, fmt.Sprintf("set %d n%d 1", i%2, i))
	}
	for _, line := range full {
		if got := answerBehind(t, nil, line); got != "ok" {
			t.Fatalf("%q: %q", line, got)
		}
	}
	for _, ahead := range [][]string{full, append(slices.Clone(full), "around"), append(slices.Clone(full), "gone 0 n0", "gone 1 n1")} {
		askEachBehind(t, ahead, map[string]string{
			"set 0 new 1": "error", "set 1 new 1": "error", "put 0 ann new 1": "error", "gone 0 new": "error", "rules 0 new rw ": "error", "rules 1 new ": "error",
			"set 0 n0 2": "ok", "set 1 n0 2": "ok", "set 1 n78 2": "ok", "put 0 ann n2 2": "ok", "gone 0 n2": "ok", "rules 1 ann r- ": "ok", "around": "yes", "tell 0 1": "ok",
		})
		askEachBehind(t, append(slices.Clone(ahead), "set 0 new 1"), map[string]string{"set 0 new 1": "error", "set 0 n0 5": "ok"})
	}
	askEachBehind(t, full[:79], map[string]string{"set 0 new 1": "ok", "set 1 new 1": "ok", "gone 0 new": "ok", "rules 1 new ": "ok"})
}

// With 58 names a zone has 60 Records, with one more there is no zone.
func TestBenchTooManyRecords(t *testing.T) {
	lines := []string{"rules 0 ann r- svc/"}
	for i := range 58 {
		lines = append(lines, fmt.Sprintf("set 0 n%d %d", i, i))
	}
	askEachBehind(t, lines, map[string]string{"ask 0 ann n57.zone": "0 57 yes", "ask 0 ann x.zone": "1 - yes"})
	more := append(slices.Clone(lines), "set 0 x 1")
	askEachBehind(t, more, map[string]string{"ask 0 ann n57.zone": "4 - yes", "ask 0 ann x.zone": "4 - yes", "ask 0 ann a": "3 - yes"})
	askEachBehind(t, append(more, "gone 0 n3"), map[string]string{"ask 0 ann n57.zone": "0 57 yes", "ask 0 ann n3.zone": "1 - yes"})
}

func TestBenchPacked(t *testing.T) {
	most := strings.Repeat(" a", 20)
	askEachBehind(t, nil, map[string]string{
		"packed a": "3", "packed a.b": "5", "packed zone": "6", "packed a.b b c.a.b": "11", "packed a a": "5", "packed a.b a.b": "7", "packed a.b a.b a.b": "9", "packed a b": "6", "packed a.zone b.zone c.zone": "16", "packed b a.b": "7", "packed a.b b": "7",
		"packed aaaaaaaaaaaa.b.c.d.e.f": "24", "packed" + most: "41", "packed" + most + " a": "error", "packed" + most + " b": "error", "packed" + most + " ": "error",
		"packed": "error", "packed A": "error", "packed a.": "error", "packed .": "error", "packed a A": "error", "packed A a": "error", "packed a *.b": "error", "packed " + strings.Repeat("a", 13): "error", "packed a.b.c.d.e.f.g": "error", "packed \x00": "error", "packed a\xff": "error",
		"packed ": "1", "packed  ": "2", "packed a ": "4", "packed  a": "4", "packed a  b": "7", "packed a  a": "6", "packeda": "error", " packed a": "error", "packed" + strings.Repeat(" ", 20): "20", "packed" + strings.Repeat(" ", 21): "error",
	})
	for run := range 300 {
		d := benchDrawer{drawFrom(uint32(20800 + run))}
		names := d.names()
		list, want := strings.Split(names, " "), "error"
		if len(list) <= 20 && !slices.ContainsFunc(list, func(name string) bool { return !nameByPattern(name) }) {
			want = fmt.Sprint(len(packedBySearch(list)))
		}
		if got := answerBehind(t, nil, "packed "+names); got != want {
			t.Errorf("%q: %q, not %q", names, got, want)
		}
	}
}

func TestBenchTimes(t *testing.T) {
	askEachBehind(t, nil, map[string]string{
		"times 0": "0 1", "times 1": "2791 6375", "times 2": "4995 5918", "times 5": "7405 8341", "times 2548": "7216 6375", "times 2549": "0 1", "times 2550": "2791 6375", "times 10196": "0 1", "times 10197": "2791 6375", "times 10195": "7216 6375",
		"times -1": "error", "times -2549": "error", "times 1000000000": "error", "times 9999999999": "error", "times": "error", "times ": "error", "times  1": "error", "times 1 ": "error", "times 1 1": "error",
	})
	p := impl.Point{X: 0, Y: 1}
	for from := 0; from < 2600; from += 200 {
		lines, want := []string{}, ""
		for n := from; n < from+200; n++ {
			lines, want = append(lines, fmt.Sprint("times ", n)), want+fmt.Sprintln(p.X, p.Y)
			p = curveAdded(p, impl.Base())
		}
		if got := askBench(t, strings.Join(lines, "\n")); got != want {
			t.Fatalf("from %d: %q, not %q", from, got, want)
		}
	}
	far := answerBehind(t, nil, "times 999999999")
	if want := answerBehind(t, nil, fmt.Sprint("times ", 999999999%2549)); far != want || far == "error" {
		t.Errorf("%q, not %q", far, want)
	}
}

// What is read as a number is of just the form that one is written in, with at most 9 digits; what is one, but names no Node, is refused as well.
func TestBenchNumbers(t *testing.T) {
	ahead := slices.Concat([]string{"rules 0 ann r- svc/", "rules 1 ann r- svc/", "set 0 a 1", "set 1 a 1"}, ticks(100))
	forms := map[string][2]string{
		"set N b 2": {"ok", "ok"}, "put N root b 2": {"ok", "ok"}, "gone N b": {"ok", "ok"}, "rules N bob rw ": {"ok", "ok"}, "step N": {"ok", "ok"}, "ask N ann a.zone": {"0 1 yes", "0 1 yes"},
		"tell N 1": {"ok", "error"}, "tell 1 N": {"ok", "error"}, "tell 0 N": {"error", "ok"}, "tell N 0": {"error", "ok"}, "times N": {"0 1", "2791 6375"},
	}
	wrong := []string{"", "-", "--1", "-0", "00", "01", "000", "-01", "+0", "+1", "1a", "a1", "a", "0x1", "1e0", "0.", "1.0", "0_1", "1_0", "\x001", "1\x00", "1\r", "1\t", "\x80", "\xff", "²", "١", "1000000000", "-1000000000", "0000000001", "9999999999", "4294967296", "18446744073709551616", "9223372036854775807", "-9223372036854775808", strings.Repeat("1", 100), "-1", "-2", "-999999999"}
	for form, wants := range forms {
		at := func(number string) string { return answerBehind(t, ahead, strings.Replace(form, "N", number, 1)) }
		if got := [2]string{at("0"), at("1")}; got != wants {
			t.Errorf("%q: %q", form, got)
		}
		for _, number := range wrong {
			if got := at(number); got != "error" {
				t.Errorf("%q of %q: %q", form, number, got)
			}
		}
		for _, number := range []string{"2", "3", "9", "10", "100", "123456789", "999999999"} {
			if got := at(number); (got == "error") != (form != "times N") {
				t.Errorf("%q of %q: %q", form, number, got)
			}
		}
	}
}

// An unknown word, one with a letter in upper case, an empty one: a blank ahead, two side by side, one at the end.
func TestBenchWords(t *testing.T) {
	rights := map[string]string{
		"rules 0 ann r- svc/": "ok", "set 0 a 1": "ok", "put 0 root a 1": "ok", "gone 0 a": "ok", "tell 0 1": "ok", "around": "yes", "tick": "1", "step 0": "error", "ask 0 ann a.zone": "4 - yes", "packed a": "3", "times 1": "2791 6375",
	}
	if len(rights) != len(benchForms) {
		t.Fatal("a word is left out")
	}
	wants := maps.Clone(rights)
	for line := range rights {
		word, rest, more := strings.Cut(line, " ")
		if more {
			rest = " " + rest
		}
		wants[" "+line], wants["  "+line], wants["\t"+line], wants[rest] = "error", "error", "error", "error"
		for _, other := range []string{strings.ToUpper(word), strings.ToUpper(word[:1]) + word[1:], word[:len(word)-1], word[1:], word + "s", word + word, "x" + word, word + "\x00", word + ":", "-" + word} {
			wants[other+rest] = "error"
		}
		if word != "rules" && word != "packed" {
			wants[line+" x"], wants[line+" "], wants[line+"  "] = "error", "error", "error"
		}
		if more && word != "packed" {
			wants[word+" "+rest] = "error"
		}
		if word != "around" && word != "tick" {
			wants[word] = "error"
		}
	}
	for _, line := range []string{" ", "  ", "what", "0", "-", "ok", "error", "yes", "bench", "new", "help", "acl/ann", "svc/a", "é", "\xff", strings.Repeat("tick", 1000)} {
		wants[line] = "error"
	}
	delete(wants, "")
	askEachBehind(t, nil, wants)
}

// Bytes of any kind, put in at each place of each line, or in place of the byte that is there.
func TestBenchBytesInEachPlace(t *testing.T) {
	t.Parallel()
	lines := []string{"rules 0 ann r- svc/", "set 0 a 1", "put 0 ann a 1", "put 0 root a 1", "gone 0 a", "tell 0 1", "around", "tick", "step 0", "ask 0 ann a.zone", "packed a a.b", "times 1"}
	ahead := slices.Concat([]string{"rules 0 ann rw svc/", "set 0 a 0"}, ticks(100))
	ask := []string{"ask 0 ann a.zone", "ask 1 ann a.zone"}
	for _, line := range lines {
		word, _, _ := strings.Cut(line, " ")
		for _, b := range []byte{0, 9, 13, 32, 33, 126, 127, 128, 255} {
			for at := range len(line) + 1 {
				changed := []string{line[:at] + string([]byte{b}) + line[at:]}
				if at < len(line) {
					changed = append(changed, line[:at]+string([]byte{b})+line[at+1:])
				}
				for _, other := range changed {
					got := askBench(t, strings.Join(slices.Concat(ahead, []string{other}, ask), "\n"))
					answer := strings.Split(got, "\n")[len(ahead)]
					if at < len(word) && answer != "error" {
						t.Errorf("%q: %q", other, answer)
					}
				}
			}
		}
	}
}

// A line without a byte is passed over, the last one may lack its byte 10, and nothing but a byte 10 ends one.
func TestBenchLines(t *testing.T) {
	for text, want := range map[string]string{
		"": "", "\n": "", "\n\n": "", "\n\n\n\n\n": "", "tick": "1\n", "tick\n": "1\n", "\ntick": "1\n", "\ntick\n": "1\n", "tick\n\n": "1\n", "\n\n\ntick\n\n\n": "1\n",
		"tick\ntick": "1\n2\n", "tick\ntick\n": "1\n2\n", "tick\n\ntick\n": "1\n2\n", "tick\n\n\n\ntick": "1\n2\n", "\n\ntick\n\n\ntick\n\n": "1\n2\n",
		"tick\rtick": "error\n", "tick\r\ntick\r\n": "error\nerror\n", "tick\n\r\ntick": "1\nerror\n2\n", "tick\x00tick": "error\n", "tick\x0btick\x0c": "error\n", "tick\u2028tick": "error\n", "tick\x85tick": "error\n",
		"\r": "error\n", "\r\n": "error\n", " ": "error\n", " \n": "error\n", "\n \n": "error\n", "\x00": "error\n", "\n\x00\n\n": "error\n", "tick \ntick": "error\n1\n", "ti\nck": "error\nerror\n", "set 0 a \n1\n": "ok\nerror\n",
	} {
		if got := askBench(t, text); got != want {
			t.Errorf("%q: %q, not %q", text, got, want)
		}
	}
}

// 200 lines are answered, 201 are not, whatever they are; those without a byte count.
func TestBenchOfHowManyLines(t *testing.T) {
	for _, empty := range []int{0, 1, 2, 100, 198, 199} {
		for _, many := range []int{199, 200, 201, 202} {
			want := ""
			for i := range many - empty {
				want += fmt.Sprintln(i + 1)
			}
			if many > 200 {
				want = ""
			}
			full, none := strings.Repeat("tick\n", many-empty), strings.Repeat("\n", empty)
			half := len("tick\n") * ((many - empty) / 2)
			texts := []string{full + none, none + full, full[:half] + none + full[half:], strings.TrimSuffix(none+full, "\n")}
			for i, text := range texts {
				if got := askBench(t, text); got != want {
					t.Errorf("%d lines, %d of them without a byte, way %d: %q", many, empty, i, got)
				}
			}
		}
	}
	right, last := strings.Repeat("\n", 199)+"tick", strings.Repeat("\n", 200)+"tick"
	for text, want := range map[string]string{
		right: "1\n", right + "\n": "1\n", right + "\n\n": "", right + "\n ": "", last: "", last + "\n": "",
		strings.Repeat("x\n", 200): strings.Repeat("error\n", 200), strings.Repeat("x\n", 201): "", strings.Repeat("x\n", 200) + "x": "", strings.Repeat("x\n", 199) + "x": strings.Repeat("error\n", 200),
		strings.Repeat("\n", 200): "", strings.Repeat("\n", 201): "", strings.Repeat("\n", 20000): "",
	} {
		if got := askBench(t, text); got != want {
			t.Errorf("%d bytes: %q, not %q", len(text), got, want)
		}
	}
}

// 20000 bytes are answered, 20001 are not, wherever they lie.
func TestBenchOfHowManyBytes(t *testing.T) {
	for _, many := range []int{19999, 20000, 20001, 20002, 40000, 1 << 20} {
		for way, text := range []string{
			"tick\n" + strings.Repeat("x", many-5), "tick\n" + strings.Repeat("x", many-6) + "\n", strings.Repeat("x", many-5) + "\ntick", strings.Repeat(" ", many-5) + "\ntick", "tick\npacked" + strings.Repeat(" ", many-11), "tick\nrules 0 ann " + strings.Repeat("v", many-17), "tick\ntimes " + strings.Repeat("1", many-11), "tick\n" + strings.Repeat("\xff", many-5),
		} {
			if len(text) != many {
				t.Fatalf("way %d: %d bytes, not %d", way, len(text), many)
			}
			want := "1\nerror\n"
			if strings.HasSuffix(text, "tick") {
				want = "error\n1\n"
			}
			if many > 20000 {
				want = ""
			}
			if got := askBench(t, text); got != want {
				t.Errorf("%d bytes, way %d: %q", many, way, got)
			}
		}
	}
	hundred := strings.Repeat("rules 0 ann "+strings.Repeat("v", 87)+"\n", 200)
	for text, want := range map[string]string{hundred: strings.Repeat("error\n", 200), hundred + "\n": "", hundred[:19999]: strings.Repeat("error\n", 200), hundred[1:] + "x": ""} {
		if got := askBench(t, text); got != want {
			t.Errorf("%d bytes: %.100q", len(text), got)
		}
	}
}

// Each call begins anew: nothing is kept from one to the next.
func TestBenchBeginsAnew(t *testing.T) {
	for range 3 {
		askLines(t, "ask 0 ann a.zone => 4 - yes", "tick => 1", "rules 0 ann r- svc/ => ok", "set 0 a 1 => ok", "ask 0 ann a.zone => 0 1 yes", "around => yes")
	}
}

// Promise 21: no panic comes out of drawn bytes, and they are answered as the chapter says.
func TestBenchOfAnyBytes(t *testing.T) {
	t.Parallel()
	draw := drawFrom(209)
	few := []string{"\n", "\n", " ", " ", "0", "1", "-", "a", "\x00", "\xff", "set", "ask", "tell", "tick", "times", "packed", "rules", "put", "gone", "step", "around", "ann", "root", "zone", ".", "svc/", "r-"}
	for range 3000 {
		var text strings.Builder
		for range draw(300) {
			if draw(4) == 0 {
				text.WriteByte(byte(draw(256)))
			} else {
				text.WriteString(few[draw(len(few))])
			}
		}
		askBench(t, text.String())
	}
}

// Promise 21: all short texts of a few bytes and words.
func TestBenchOfEachShortText(t *testing.T) {
	t.Parallel()
	few := []string{"\n", " ", "0", "1", "tick", "step", "tell", "times", "packed", "a"}
	texts := []string{""}
	for from := 0; len(texts) < 11111; from++ {
		for _, part := range few {
			texts = append(texts, texts[from]+part)
		}
	}
	for _, text := range texts {
		askBench(t, text)
	}
}

// Promise 21: right texts with a byte changed, left out, put in twice.
func TestBenchOfChangedTexts(t *testing.T) {
	t.Parallel()
	other := 0
	for run := range 20 {
		d := benchDrawer{drawFrom(uint32(20900 + run))}
		text := strings.Join(d.lines(20, 1), "\n")
		want := askBench(t, text)
		for range 150 {
			at := d.draw(len(text))
			changed := []string{text[:at] + string([]byte{byte(d.draw(256))}) + text[at+1:], text[:at] + text[at+1:], text[:at+1] + text[at:]}[d.draw(3)]
			if askBench(t, changed) != want {
				other++
			}
		}
	}
	if other < 500 {
		t.Errorf("only %d are answered otherwise", other)
	}
}

// Promise 21: the same text gets the same answer again, whatever was asked in between.
func TestPromise21BenchAgain(t *testing.T) {
	t.Parallel()
	texts, first := []string{}, []string{}
	for run := range 40 {
		d := benchDrawer{drawFrom(uint32(21000 + run))}
		texts = append(texts, strings.Join(d.lines(1+d.draw(200), run%3), "\n"))
		first = append(first, impl.Bench(texts[run]))
	}
	for i, text := range slices.Backward(texts) {
		for range 2 {
			if got := impl.Bench(strings.Clone(text)); got != first[i] {
				t.Fatalf("%q: %q, then %q", text, first[i], got)
			}
		}
	}
}

// Promise 21: many calls at the same time, of the same and of other texts; .ci/run asks this under the race detector, too.
func TestAtTheSameTimeBench(t *testing.T) {
	texts, wants := []string{}, []string{}
	for run := range 6 {
		d := benchDrawer{drawFrom(uint32(21100 + run))}
		texts = append(texts, strings.Join(d.lines(80, 1), "\n"))
		out, _ := benchByWords(texts[run])
		wants = append(wants, out)
	}
	var all sync.WaitGroup
	for i := range 24 {
		all.Go(func() {
			if got := impl.Bench(texts[i%6]); got != wants[i%6] {
				t.Errorf("text %d is answered otherwise at the same time", i%6)
			}
		})
	}
	all.Wait()
}
