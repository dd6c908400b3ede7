package tests

import (
	"encoding/binary"
	"fmt"
	"math"
	"slices"
	"strings"
	"testing"

	"loop.example/g00307/impl"
)

// sumByText puts the whole text together first.
func sumByText(ahead int64, text string) int64 {
	return hashByPlaces(fmt.Sprintf("%d %s", ahead, text))
}

// linesOf chains any texts, also too many and too long ones.
func linesOf(texts ...string) []impl.Line {
	list, ahead := []impl.Line{}, int64(0)
	for _, text := range texts {
		ahead = sumByText(ahead, text)
		list = append(list, impl.Line{Text: text, Sum: ahead})
	}
	return list
}

// chainAnew is the Texts of a list with the Sums that they ask for.
func chainAnew(list []impl.Line) []impl.Line {
	texts := []string{}
	for _, line := range list {
		texts = append(texts, line.Text)
	}
	return linesOf(texts...)
}

// manyTexts are n, no two alike but for a few of no byte, neither the first nor the last of 300 among these.
func manyTexts(n int) []string {
	texts := []string{}
	for i := range n {
		text := fmt.Sprintf("%d %s", i, strings.Repeat("\xf1", i%5))
		if i%50 == 30 {
			text = ""
		}
		texts = append(texts, text)
	}
	return texts
}

// edgeTexts have 0, 1, 99 and 100 bytes, bytes 0 and bytes above 127.
func edgeTexts() []string {
	return []string{"", "a", "\x00", "\x7f", "\x80", "\xff", " ", "0", "-1", "0 ", "\n", "é", strings.Repeat("x", 99), strings.Repeat("x", 100), strings.Repeat("\x00", 100), strings.Repeat("\xff", 100), strings.Repeat("é", 50)}
}

// longTexts are too long; two of them are not when counted by runes.
func longTexts() []string {
	return []string{strings.Repeat("x", 101), strings.Repeat("\x00", 101), strings.Repeat("\xff", 101), strings.Repeat("é", 50) + "x", strings.Repeat("é", 51), strings.Repeat("x", 102), strings.Repeat("x", 256), strings.Repeat("x", 356), strings.Repeat("long ", 20000)}
}

// someLogs are of none, of one, of a few and of many Lines.
func someLogs() [][]impl.Line {
	logs := [][]impl.Line{nil, {}, linesOf("a", "b"), linesOf("", "", ""), linesOf("a", "a", "a", "a"), linesOf("5 1 0", "0 1", " "), linesOf(edgeTexts()...)}
	for _, text := range edgeTexts() {
		logs = append(logs, linesOf(text))
	}
	for _, n := range []int{17, 100, 299, 300} {
		logs = append(logs, linesOf(manyTexts(n)...))
	}
	return logs
}

// wrongSums are none of the Sums that a Line with this one may have.
func wrongSums(right int64) []int64 {
	wrong := []int64{right - 1, right + 1, right + 10, -right, -right - 1, ^right, right ^ 1<<20, right ^ 1<<40, right + 2147483647, right - 2147483647, right + 1<<32, right - 1<<32, right + 1<<62, 0, 1, -1, 17, 2147483646, 2147483647, math.MinInt64, math.MaxInt64}
	return slices.DeleteFunc(wrong, func(n int64) bool { return n == right })
}

// withLine is a list of its own, with one Line changed.
func withLine(list []impl.Line, at int, line impl.Line) []impl.Line {
	list = slices.Clone(list)
	list[at] = line
	return list
}

// noLogs are wrong in one thing each.
func noLogs() map[string][]impl.Line {
	good := linesOf(manyTexts(20)...)
	bad := map[string][]impl.Line{
		"the zero Line":           {{}},
		"two zero Lines":          {{}, {}},
		"Hash without the number": {{Text: "a", Sum: hashByPlaces("a")}},
		"Hash without the blank":  {{Text: "a", Sum: hashByPlaces("0a")}},
		"Hash with no number":     {{Text: "a", Sum: hashByPlaces(" a")}},
		"Hash of the Text ahead":  {{Text: "a", Sum: hashByPlaces("a 0")}},
		"Hash with 17 ahead":      {{Text: "a", Sum: sumByText(17, "a")}},
		"Sums that hang on none":  {linesOf("a")[0], linesOf("b")[0]},
		"without the first Line":  good[1:],
		"without a middle Line":   slices.Delete(slices.Clone(good), 9, 10),
		"a Line twice":            slices.Insert(slices.Clone(good), 9, good[9]),
		"a Line ahead":            slices.Insert(slices.Clone(good), 0, linesOf("b")[0]),
		"a zero Line behind":      append(slices.Clone(good), impl.Line{}),
		"301 Lines":               linesOf(manyTexts(301)...),
		"301 Lines of no byte":    linesOf(make([]string, 301)...),
		"302 Lines":               linesOf(manyTexts(302)...),
		"600 Lines":               linesOf(manyTexts(600)...),
		"301 zero Lines":          make([]impl.Line, 301),
		"10000 Lines":             linesOf(manyTexts(10000)...),
	}
	backwards := slices.Clone(good)
	slices.Reverse(backwards)
	bad["backwards"] = backwards
	for _, at := range []int{0, 9, 19} {
		for _, sum := range wrongSums(good[at].Sum) {
			bad[fmt.Sprintf("Sum %d in Line %d", sum, at)] = withLine(good, at, impl.Line{Text: good[at].Text, Sum: sum})
		}
		for i, text := range longTexts() {
			bad[fmt.Sprintf("long Text %d in Line %d", i, at)] = chainAnew(withLine(good, at, impl.Line{Text: text}))
		}
	}
	return bad
}

// askIsNoLog asks all four functions, Same on either side.
func askIsNoLog(t *testing.T, what string, list []impl.Line) {
	t.Helper()
	if impl.LogOk(list) {
		t.Fatalf("%s: LogOk", what)
	}
	if got := impl.Head(list); got != -1 {
		t.Fatalf("%s: Head is %d", what, got)
	}
	for _, text := range []string{"", "more", strings.Repeat("x", 101)} {
		if got, ok := impl.Noted(list, text); ok || len(got) != 0 {
			t.Fatalf("%s: Noted %.10q: %d Lines and %v", what, text, len(got), ok)
		}
	}
	for _, other := range [][]impl.Line{nil, linesOf("a", "b"), list} {
		if there, back := impl.Same(list, other), impl.Same(other, list); there != -1 || back != -1 {
			t.Fatalf("%s: Same is %d and %d", what, there, back)
		}
	}
}

// mustNote is Noted where there is room.
func mustNote(t *testing.T, list []impl.Line, text string) []impl.Line {
	t.Helper()
	got, ok := impl.Noted(list, text)
	if !ok {
		t.Fatalf("%d Lines: %.20q is not Noted", len(list), text)
	}
	return got
}

func TestChainKnown(t *testing.T) {
	list := mustNote(t, mustNote(t, nil, "a"), "b")
	if want := []impl.Line{{Text: "a", Sum: 561801746}, {Text: "b", Sum: 824111809}}; !slices.Equal(list, want) {
		t.Fatal(list)
	}
	if list[0].Sum != impl.Hash("0 a") || list[1].Sum != impl.Hash("561801746 b") {
		t.Error(list)
	}
}

func TestLogOk(t *testing.T) {
	for i, list := range someLogs() {
		if !impl.LogOk(list) {
			t.Errorf("log %d of %d Lines is none", i, len(list))
		}
		for n := range len(list) {
			if !impl.LogOk(list[:n]) {
				t.Fatalf("log %d: its first %d Lines are none", i, n)
			}
		}
	}
}

// Promise 4: what is Noted on, line by line, stays a log that begins as it did.
func TestPromise4NotedLineByLine(t *testing.T) {
	for _, texts := range [][]string{edgeTexts(), signTexts()[:20], manyTexts(300), make([]string, 300), slices.Repeat([]string{strings.Repeat("\xff", 100)}, 300)} {
		var list []impl.Line
		for i, text := range texts {
			longer := mustNote(t, list, text)
			if len(longer) != i+1 || !slices.Equal(longer[:i], list) {
				t.Fatalf("Line %d, %.20q: it does not begin as it did", i, text)
			}
			if want := (impl.Line{Text: text, Sum: sumByText(impl.Head(list), text)}); longer[i] != want {
				t.Fatalf("Line %d is %v, want %v", i, longer[i], want)
			}
			if !impl.LogOk(longer) || impl.Head(longer) != longer[i].Sum {
				t.Fatalf("Line %d, %.20q: no log, or its Head is %d", i, text, impl.Head(longer))
			}
			if got := impl.Same(list, longer); got != int64(i) {
				t.Fatalf("Line %d: Same is %d", i, got)
			}
			list = longer
		}
		if !slices.Equal(list, linesOf(texts...)) {
			t.Fatalf("a log of %d Lines is another one", len(texts))
		}
	}
}

// Promise 4: each place of each Line, each other byte.
func TestPromise4EachOtherByte(t *testing.T) {
	for _, list := range [][]impl.Line{linesOf("a"), linesOf("\x00"), linesOf("a", "b"), linesOf("", "ab", "", "\x00\xff"), linesOf(strings.Repeat("\x00", 100), "0 1", strings.Repeat("\xff", 100)), linesOf(edgeTexts()...)} {
		for at, line := range list {
			for place := range len(line.Text) {
				changed := []byte(line.Text)
				for b := range 256 {
					changed[place] = byte(b)
					is := impl.LogOk(withLine(list, at, impl.Line{Text: string(changed), Sum: line.Sum}))
					if is != (byte(b) == line.Text[place]) {
						t.Fatalf("Line %d of %d, place %d: with byte %d it is %v", at, len(list), place, b, is)
					}
				}
			}
		}
	}
}

// Promise 4: by all functions, in a log as long as any.
func TestPromise4OneByteInALongLog(t *testing.T) {
	list := linesOf(manyTexts(300)...)
	for at, line := range list {
		for place := range len(line.Text) {
			changed := []byte(line.Text)
			changed[place] ^= 1 << (at % 8)
			if impl.LogOk(withLine(list, at, impl.Line{Text: string(changed), Sum: line.Sum})) {
				t.Fatalf("Line %d, place %d", at, place)
			}
		}
	}
	for _, at := range []int{0, 1, 150, 298, 299} {
		text := list[at].Text
		askIsNoLog(t, fmt.Sprint("Line ", at), withLine(list, at, impl.Line{Text: "x" + text[1:], Sum: list[at].Sum}))
	}
}

// A byte more or less, or all of a Text, is no less of a change.
func TestPromise4OtherTexts(t *testing.T) {
	for _, list := range [][]impl.Line{linesOf("a", "b", "c"), linesOf("5 1 0", "0 1", " "), linesOf(manyTexts(20)...)} {
		for at, line := range list {
			for _, text := range []string{line.Text + "\x00", line.Text + " ", "\x00" + line.Text, " " + line.Text, "0" + line.Text, line.Text + line.Text, line.Text[min(1, len(line.Text)):], line.Text[:max(0, len(line.Text)-1)], "other"} {
				if is := impl.LogOk(withLine(list, at, impl.Line{Text: text, Sum: line.Sum})); is != (text == line.Text) {
					t.Errorf("Line %d, %q for %q: %v", at, text, line.Text, is)
				}
			}
		}
	}
}

// Promise 4: with one Sum changed, also where all Sums behind hang on it.
func TestPromise4OneSumChanged(t *testing.T) {
	for _, list := range [][]impl.Line{linesOf(""), linesOf("a", "b"), linesOf(edgeTexts()...), linesOf(manyTexts(60)...)} {
		for at, line := range list {
			for _, sum := range wrongSums(line.Sum) {
				bad := withLine(list, at, impl.Line{Text: line.Text, Sum: sum})
				askIsNoLog(t, fmt.Sprintf("Sum %d in Line %d of %d", sum, at, len(list)), bad)
				for i := at + 1; i < len(bad); i++ {
					bad[i].Sum = sumByText(bad[i-1].Sum, bad[i].Text)
				}
				askIsNoLog(t, fmt.Sprintf("Sum %d from Line %d of %d on", sum, at, len(list)), bad)
			}
		}
	}
}

func TestNoLog(t *testing.T) {
	for what, list := range noLogs() {
		askIsNoLog(t, what, list)
	}
}

func TestNoLogOnEitherSideOfSame(t *testing.T) {
	bad := noLogs()
	for what, list := range bad {
		for _, good := range [][]impl.Line{nil, linesOf("a"), linesOf(manyTexts(20)...), linesOf(manyTexts(300)...)} {
			if there, back := impl.Same(list, good), impl.Same(good, list); there != -1 || back != -1 {
				t.Fatalf("%s: Same is %d and %d", what, there, back)
			}
		}
		if got := impl.Same(list, bad["301 Lines"]); got != -1 {
			t.Fatalf("%s: Same with no log is %d", what, got)
		}
	}
}

func TestLogOfNoLine(t *testing.T) {
	for _, none := range [][]impl.Line{nil, {}, make([]impl.Line, 0, 5), linesOf("a")[:0]} {
		if !impl.LogOk(none) || impl.Head(none) != 0 || impl.Same(none, none) != 0 || impl.Same(none, nil) != 0 {
			t.Error("a log of no Line")
		}
		if got := mustNote(t, none, ""); !slices.Equal(got, []impl.Line{{Sum: impl.Hash("0 ")}}) {
			t.Error(got)
		}
		if got, ok := impl.Noted(none, strings.Repeat("x", 101)); ok || len(got) != 0 {
			t.Error(got, ok)
		}
	}
}

func TestTextsAtTheirEdges(t *testing.T) {
	for _, ahead := range [][]impl.Line{nil, linesOf("a", "b"), linesOf(manyTexts(299)...)} {
		for _, text := range edgeTexts() {
			got := mustNote(t, ahead, text)
			if want := linesOf(text)[0]; len(ahead) == 0 && got[0] != want {
				t.Errorf("%.20q: %v, want %v", text, got, want)
			}
			if got[len(ahead)].Text != text || !impl.LogOk(got) {
				t.Errorf("%.20q behind %d Lines", text, len(ahead))
			}
		}
		for _, text := range longTexts() {
			if got, ok := impl.Noted(ahead, text); ok || !slices.Equal(got, ahead) {
				t.Errorf("%d bytes behind %d Lines: %d and %v", len(text), len(ahead), len(got), ok)
			}
		}
	}
}

// Each of the Lines may have a Text of 100 bytes; one of 101 is one too long, wherever it stands.
func TestLongestTextInEachLine(t *testing.T) {
	for at := range 30 {
		texts := manyTexts(30)
		texts[at] = strings.Repeat("\x80", 100)
		if !impl.LogOk(linesOf(texts...)) {
			t.Errorf("100 bytes in Line %d", at)
		}
		texts[at] += "\x80"
		if impl.LogOk(linesOf(texts...)) {
			t.Errorf("101 bytes in Line %d", at)
		}
	}
}

func TestLogsAsLongAsAny(t *testing.T) {
	list := linesOf(manyTexts(299)...)
	if !impl.LogOk(list) || impl.Head(list) != list[298].Sum {
		t.Error("299 Lines")
	}
	full := mustNote(t, list, "last")
	if len(full) != impl.MaxLog || impl.MaxLog != 300 || !impl.LogOk(full) || impl.Head(full) != full[299].Sum || impl.Same(full, full) != 300 {
		t.Error("300 Lines")
	}
	for _, text := range append(edgeTexts(), longTexts()...) {
		if got, ok := impl.Noted(full, text); ok || !slices.Equal(got, full) {
			t.Errorf("%.20q behind 300 Lines: %d and %v", text, len(got), ok)
		}
	}
	over := append(slices.Clone(full), impl.Line{Text: "one more", Sum: sumByText(impl.Head(full), "one more")})
	askIsNoLog(t, "301 Lines", over)
}

func TestHeadIsTheLastSum(t *testing.T) {
	for i, list := range someLogs() {
		want := int64(0)
		for n := 0; n <= len(list); n++ {
			if got := impl.Head(list[:n]); got != want {
				t.Fatalf("log %d: Head of %d Lines is %d, want %d", i, n, got, want)
			}
			if n < len(list) {
				want = list[n].Sum
			}
		}
	}
}

// sameByTexts goes by the Texts alone: of logs that says it all.
func sameByTexts(a, b []impl.Line) int64 {
	n := int64(0)
	for i, line := range a {
		if i >= len(b) || b[i].Text != line.Text {
			return n
		}
		n++
	}
	return n
}

func TestSameOfAnyTwo(t *testing.T) {
	logs := someLogs()
	for i, a := range logs {
		for j, b := range logs {
			if got, want := impl.Same(a, b), sameByTexts(a, b); got != want {
				t.Fatalf("Same of logs %d and %d is %d, want %d", i, j, got, want)
			}
		}
	}
}

func TestSameWhereOneBeginsTheOther(t *testing.T) {
	whole := linesOf(manyTexts(300)...)
	for _, n := range []int{0, 1, 2, 17, 150, 298, 299, 300} {
		if there, back := impl.Same(whole[:n], whole), impl.Same(whole, whole[:n]); there != int64(n) || back != int64(n) {
			t.Errorf("the first %d of 300: %d and %d", n, there, back)
		}
		if got := impl.Same(whole[:n], slices.Clone(whole[:n])); got != int64(n) {
			t.Errorf("%d alike: %d", n, got)
		}
	}
}

// Once a Line differs, none behind it counts, though its Text is the same again.
func TestSameUpToTheFirstThatDiffers(t *testing.T) {
	texts := manyTexts(40)
	whole := linesOf(texts...)
	for at := range texts {
		changed := slices.Clone(texts)
		changed[at] = "another"
		for _, other := range [][]impl.Line{linesOf(changed...), linesOf(changed[:at+1]...), linesOf(slices.Concat(changed, texts)...)} {
			if there, back := impl.Same(whole, other), impl.Same(other, whole); there != int64(at) || back != int64(at) {
				t.Fatalf("another Line %d: %d and %d", at, there, back)
			}
		}
	}
}

// twoWithOneSum finds two Texts whose Sum as a first Line is the same, among bytes that are well mixed: those of numbers in turn, or of their multiples, do not meet.
func twoWithOneSum(t *testing.T) (string, string) {
	t.Helper()
	seen := map[int64]string{}
	for n := range uint64(1000000) {
		mixed := n * 0x9e3779b97f4a7c15
		mixed = (mixed ^ mixed>>31) * 0xbf58476d1ce4e5b9
		text := string(binary.BigEndian.AppendUint64(nil, mixed))
		sum := impl.Hash("0 " + text)
		if other, ok := seen[sum]; ok {
			return other, text
		}
		seen[sum] = text
	}
	t.Fatal("no two Texts have one Sum")
	return "", ""
}

func TestSameOfTextsWithOneSum(t *testing.T) {
	one, two := twoWithOneSum(t)
	a, b := linesOf(one, "x", "y"), linesOf(two, "x", "y")
	if a[0].Sum != b[0].Sum || !slices.Equal(a[1:], b[1:]) || !impl.LogOk(a) || !impl.LogOk(b) {
		t.Fatal(a, b)
	}
	if got := impl.Same(a, b); got != 0 {
		t.Errorf("Same of %q and %q is %d", one, two, got)
	}
}

// roomy is the list at the front of an array that has marked room behind it, and all of that.
func roomy(list []impl.Line, room int) ([]impl.Line, []impl.Line) {
	all := slices.Clone(list)
	for i := range room {
		all = append(all, impl.Line{Text: "room", Sum: int64(-7 - i)})
	}
	return all[:len(list)], all
}

// scribble writes over all that an answer has, its spare room, too.
func scribble(list []impl.Line) {
	list = list[:cap(list)]
	for i := range list {
		list[i] = impl.Line{Text: "scribble", Sum: -99}
	}
}

func notedTexts() []string {
	return []string{"", "more", strings.Repeat("x", 100), strings.Repeat("x", 101)}
}

// Promise 21 of chapter 4: nothing is written into an argument or the room behind it, and no answer lies there.
func TestPromise21ChainArgumentsStay(t *testing.T) {
	lists := someLogs()
	for _, list := range noLogs() {
		lists = append(lists, list)
	}
	for i, list := range lists {
		for _, room := range []int{0, 1, 2, 50} {
			front, all := roomy(list, room)
			before := slices.Clone(all)
			for _, text := range notedTexts() {
				got, _ := impl.Noted(front, text)
				impl.LogOk(front)
				impl.Head(front)
				impl.Same(front, front)
				impl.Same(front, all)
				if !slices.Equal(all, before) {
					t.Fatalf("list %d with room for %d, %.10q: something was written", i, room, text)
				}
				scribble(got)
				if !slices.Equal(all, before) {
					t.Fatalf("list %d with room for %d, %.10q: the answer shares memory", i, room, text)
				}
			}
		}
	}
}

// Promise 21: an argument that is written to later changes no answer.
func TestPromise21ChainAnswersStay(t *testing.T) {
	for i, list := range someLogs() {
		for _, text := range notedTexts() {
			front, all := roomy(list, 3)
			got, _ := impl.Noted(front, text)
			before := slices.Clone(got)
			scribble(all)
			if !slices.Equal(got, before) {
				t.Fatalf("log %d, %.10q: the answer shares memory", i, text)
			}
		}
	}
}

// Promise 21: two answers to one list, and answers that are Noted on, have nothing in common.
func TestPromise21ChainAnswersAreApart(t *testing.T) {
	for i, list := range someLogs() {
		for _, one := range notedTexts() {
			for _, two := range notedTexts() {
				first, _ := impl.Noted(list, one)
				second, _ := impl.Noted(list, two)
				third, _ := impl.Noted(first, two)
				wantSecond, wantThird := slices.Clone(second), slices.Clone(third)
				scribble(first)
				if !slices.Equal(second, wantSecond) || !slices.Equal(third, wantThird) {
					t.Fatalf("log %d, %.10q and %.10q: two answers share memory", i, one, two)
				}
				scribble(third)
				if !slices.Equal(second, wantSecond) {
					t.Fatalf("log %d, %.10q and %.10q: two answers share memory", i, one, two)
				}
			}
		}
	}
}

// Two ways on from one log go apart, though its array has room for just one of them.
func TestPromise21ChainTwoWaysOn(t *testing.T) {
	front, _ := roomy(linesOf("a", "b"), 4)
	one, two := mustNote(t, front, "one"), mustNote(t, front, "two")
	if !slices.Equal(one, linesOf("a", "b", "one")) || !slices.Equal(two, linesOf("a", "b", "two")) || impl.Same(one, two) != 2 {
		t.Error(one, two)
	}
	one, two = mustNote(t, one, "three"), mustNote(t, one, "four")
	if !slices.Equal(one, linesOf("a", "b", "one", "three")) || !slices.Equal(two, linesOf("a", "b", "one", "four")) {
		t.Error(one, two)
	}
}

// Promise 21: each argument gets the same answer again, and one of the right form.
func TestPromise21ChainAgain(t *testing.T) {
	lists := someLogs()
	for _, list := range noLogs() {
		lists = append(lists, list)
	}
	for i, a := range lists {
		b := lists[(i*7+3)%len(lists)]
		for _, text := range append(notedTexts(), longTexts()...) {
			first, firstOk := impl.Noted(a, text)
			again, againOk := impl.Noted(a, text)
			if firstOk != againOk || !slices.Equal(first, again) {
				t.Fatalf("list %d, %.10q: another answer", i, text)
			}
			if firstOk != (impl.LogOk(a) && len(a) < 300 && len(text) <= 100) {
				t.Fatalf("list %d, %.10q: Noted says %v", i, text, firstOk)
			}
		}
		if impl.Head(a) != impl.Head(a) || impl.Same(a, b) != impl.Same(a, b) || impl.Same(a, b) != impl.Same(b, a) {
			t.Fatalf("list %d: another answer", i)
		}
		if (impl.Head(a) == -1) == impl.LogOk(a) || (impl.Same(a, b) == -1) == (impl.LogOk(a) && impl.LogOk(b)) {
			t.Fatalf("list %d: Head %d, Same %d", i, impl.Head(a), impl.Same(a, b))
		}
	}
}
