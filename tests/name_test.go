package tests

import (
	"fmt"
	"regexp"
	"slices"
	"strings"
	"testing"

	"loop.example/g00307/impl"
)

var namePattern = regexp.MustCompile(`^([a-z0-9-]{1,12}(\.[a-z0-9-]{1,12}){0,5})?$`)

// nameByPattern goes by the whole text.
func nameByPattern(s string) bool { return len(s) <= 60 && namePattern.MatchString(s) }

// splitLabels are the labels of a name; strings.Split would give the root one of no byte.
func splitLabels(name string) []string {
	if name == "" {
		return nil
	}
	return strings.Split(name, ".")
}

// orderByLabels holds the lists of labels against each other, turned round.
func orderByLabels(a, b string) int {
	x, y := splitLabels(a), splitLabels(b)
	slices.Reverse(x)
	slices.Reverse(y)
	return slices.Compare(x, y)
}

// underByLabels goes by labels, not by bytes.
func underByLabels(a, b string) bool {
	x, y := splitLabels(a), splitLabels(b)
	return len(x) >= len(y) && slices.Equal(x[len(x)-len(y):], y)
}

// namesFrom are all names of at most depth of these labels, the root among them.
func namesFrom(depth int, labels ...string) []string {
	names, last := []string{""}, []string{""}
	for range depth {
		next := []string{}
		for _, behind := range last {
			for _, label := range labels {
				next = append(next, strings.TrimSuffix(label+"."+behind, "."))
			}
		}
		names, last = append(names, next...), next
	}
	return names
}

// closeLabels begin and end one another, and have the - that is less than a dot.
var closeLabels = []string{"-", "0", "a", "a-", "a0", "aa", "ba"}

// edgeNames are right at the edges of labels, of their count and of the bytes in all.
func edgeNames() []string {
	twelve := strings.Repeat("z", 12)
	four := strings.Repeat(twelve+".", 4)
	return []string{
		"", "a", "z", "0", "9", "-", "--", "---", "-a-", "a-", "-a", twelve, "abcdefghijkl", "mnopqrstuvwx", "yz0123456789", "------------", "000000000000",
		"a.b.c.d.e.f", "-.-.-.-.-.-", "0.1.2.3.4.5", "a.b-1.zone", "zone", "a.zone", "azone", "b.zone", "z.a.zone",
		four + "12345678", "12345678." + strings.TrimSuffix(four, "."), four + "1234.678", twelve + ".a." + twelve + ".b." + twelve + "." + strings.Repeat("y", 12), twelve + "." + twelve,
		"aaaaaaaaaa.bbbbbbbbbb.cccccccccc.dddddddddd.eeeeeeeeee.fffff", "aaaaaaaaaa.bbbbbbbbbb.cccccccccc.dddddddddd.eeeeeeeeee.ffff",
	}
}

// someNames are those at the edges, and many that are close to one another.
func someNames() []string {
	return append(edgeNames(), namesFrom(3, closeLabels...)[1:]...)
}

// badBytes are all that no label has; a dot is not among them.
func badBytes() []byte {
	bad := []byte{}
	for b := range 256 {
		if !strings.ContainsRune("abcdefghijklmnopqrstuvwxyz0123456789-.", rune(b)) || b > 127 {
			bad = append(bad, byte(b))
		}
	}
	return bad
}

// noNames are wrong in one thing each.
func noNames() []string {
	thirteen, twelve := strings.Repeat("a", 13), strings.Repeat("a", 12)
	bad := []string{
		".", "..", "...", ".a", "a.", "a..b", "a...b", ".a.b", "a.b.", "..a", "a..", "a.b..c", ".....", "......", "a.b.c.d.e.", ".b.c.d.e.f", "a.b.c..e.f",
		thirteen, thirteen + ".a", "a." + thirteen, "a." + thirteen + ".b", strings.Repeat("-", 13), strings.Repeat("a", 24), strings.Repeat("a", 60), strings.Repeat("a", 61), strings.Repeat("a", 256), strings.Repeat("a", 268),
		"a.b.c.d.e.f.g", "a.b.c.d.e.f.", ".a.b.c.d.e.f", "a.b.c.d.e.f.g.h", strings.Repeat("a.", 29) + "a", strings.Repeat("a.", 300) + "a", strings.Repeat(".", 60), strings.Repeat(".", 61), strings.Repeat(".", 257),
		strings.Repeat(twelve+".", 4) + "123456789", "123456789." + strings.Repeat(twelve+".", 3) + twelve, strings.Repeat(twelve+".", 4) + "1234.5678", strings.Repeat(twelve+".", 4) + twelve, strings.Repeat(twelve+".", 5) + twelve,
		"aaaaaaaaaa.bbbbbbbbbb.cccccccccc.dddddddddd.eeeeeeeeee.ffffff", strings.Repeat("long.", 20000),
		"*", "*.", "*.a", "*.a.b", "a.*", "A", "Z", "aB", "Zone", "a.Zone", "a b", " a", "a ", "a_b", "a/b", "a:b", "a,b", "a.b\n", "\na", "a\x00", "\x00", "é", "ä.zone", "a.ß", "\xff", "a\x80", "\u0430", "\uff41", "\u00ad", "\u2010", "\u3002", "a\u3002b",
	}
	for _, b := range badBytes() {
		s := string([]byte{b})
		bad = append(bad, s, "a"+s, s+"a", "a"+s+"b", s+".a", "a."+s, "a.b"+s+"c.d")
	}
	return bad
}

// askIsNoName asks all six functions, those of two names on either side.
func askIsNoName(t *testing.T, bad string) {
	t.Helper()
	if impl.NameOk(bad) {
		t.Errorf("%.70q is a name", bad)
	}
	if got := impl.Labels(bad); len(got) != 0 {
		t.Errorf("%.70q has Labels %q", bad, got)
	}
	if parent, star := impl.Parent(bad), impl.Star(bad); parent != "" || star != "" {
		t.Errorf("%.70q has Parent %q, Star %q", bad, parent, star)
	}
	for _, name := range []string{"", "a", "z", "a.b", "zone", "-", strings.Repeat("z", 12), bad, "." + bad, bad + ".a", "a." + bad} {
		if impl.Under(bad, name) || impl.Under(name, bad) || impl.Before(bad, name) || impl.Before(name, bad) {
			t.Errorf("%.70q and %.70q: Under or Before", bad, name)
		}
	}
}

func TestNameKnown(t *testing.T) {
	if got := impl.Labels("a.b-1.zone"); !slices.Equal(got, []string{"a", "b-1", "zone"}) {
		t.Error(got)
	}
	if parent, star := impl.Parent("a.b-1.zone"), impl.Star("a.b-1.zone"); parent != "b-1.zone" || star != "*.b-1.zone" {
		t.Error(parent, star)
	}
	inOrder := []string{"", "-", "-.-", "0", "a", "-.a", "-.-.a", "a.-.a", "-a.a", "0.a", "a.a", "z.a.a", "b.a", "a-", "a.a-", "a0", "aa", "b", "zone", "a.zone", "z.a.zone", "b.zone", "zone-", "zones"}
	for i, a := range inOrder {
		for j, b := range inOrder {
			if got := impl.Before(a, b); got != (i < j) {
				t.Errorf("Before of %q and %q is %v", a, b, got)
			}
		}
	}
}

func TestNamesAtTheirEdges(t *testing.T) {
	for _, name := range someNames() {
		if !nameByPattern(name) {
			t.Fatalf("the test's own %q is no name", name)
		}
		if !impl.NameOk(name) {
			t.Errorf("%q is no name", name)
		}
	}
}

func TestNoName(t *testing.T) {
	for _, bad := range noNames() {
		if nameByPattern(bad) {
			t.Fatalf("the test's own %q is a name", bad)
		}
		askIsNoName(t, bad)
	}
}

// Each byte, at each place of a label and of a name.
func TestNameEachByte(t *testing.T) {
	for _, name := range []string{"x", "xy", "xyz", "x.y.z", "xx.yy.zz", "xxxxxxxxxxxx", "x.x.x.x.x.x", "xxxxxxxxxxxx.yy"} {
		for at := range len(name) {
			text := []byte(name)
			for b := range 256 {
				text[at] = byte(b)
				if got, want := impl.NameOk(string(text)), nameByPattern(string(text)); got != want {
					t.Fatalf("%q: %v", text, got)
				}
			}
		}
	}
	for _, b := range []byte("az09-") {
		if !impl.NameOk(string(b)) {
			t.Errorf("%q is no name", b)
		}
	}
	for _, b := range []byte("`{/:,.@[AZ_ \x00\x7f") {
		if impl.NameOk(string(b)) {
			t.Errorf("%q is a name", b)
		}
	}
}

// Each text of at most 7 bytes over a few: dots wherever they can stand.
func TestNameEachShortText(t *testing.T) {
	texts := []string{""}
	for from := 0; len(texts[from]) < 7; from++ {
		for _, b := range []string{"a", "-", ".", "A"} {
			texts = append(texts, texts[from]+b)
		}
	}
	for _, text := range texts {
		want := nameByPattern(text)
		if got := impl.NameOk(text); got != want {
			t.Fatalf("%q: %v", text, got)
		}
		if got := impl.Labels(text); want && strings.Join(got, ".") != text || !want && len(got) != 0 {
			t.Fatalf("%q: Labels %q", text, got)
		}
	}
}

// Every length of a label in every place, and every count of labels, up to and past the edges.
func TestNameLengthsAndCounts(t *testing.T) {
	for count := range 10 {
		for long := range 16 {
			for at := range count {
				labels := slices.Repeat([]string{"ab"}, count)
				labels[at] = strings.Repeat("c", long)
				text := strings.Join(labels, ".")
				want := count <= 6 && 1 <= long && long <= 12 || text == ""
				if got := impl.NameOk(text); got != want {
					t.Errorf("%q: %v", text, got)
				}
			}
		}
	}
	for size := range 80 {
		text := ""
		for len(text) < size {
			piece := strings.Repeat("d", min(12, size-len(text)))
			if len(piece) == 12 && size-len(text) > 12 {
				piece += "."
			}
			text += piece
		}
		want := size <= 60 && !strings.HasSuffix(text, ".")
		if got := impl.NameOk(text); got != want {
			t.Errorf("%d bytes, %q: %v", len(text), text, got)
		}
	}
}

func TestLabels(t *testing.T) {
	for _, name := range someNames() {
		if got, want := impl.Labels(name), splitLabels(name); !slices.Equal(got, want) {
			t.Errorf("Labels of %q are %q", name, got)
		}
	}
}

func TestTheRoot(t *testing.T) {
	if !impl.NameOk("") || len(impl.Labels("")) != 0 || impl.Parent("") != "" || impl.Star("") != "" {
		t.Error("the root")
	}
	if !impl.Under("", "") || impl.Before("", "") {
		t.Error("the root and itself")
	}
	for _, name := range someNames()[1:] {
		if !impl.Under(name, "") || impl.Under("", name) {
			t.Errorf("Under of %q and the root", name)
		}
		if !impl.Before("", name) || impl.Before(name, "") {
			t.Errorf("Before of %q and the root", name)
		}
	}
}

// Promise 5: the Parent has one label less, the name is Under it, and behind it.
func TestPromise5Parent(t *testing.T) {
	for _, name := range someNames()[1:] {
		parent, labels := impl.Parent(name), impl.Labels(name)
		if !impl.NameOk(parent) || !slices.Equal(impl.Labels(parent), labels[1:]) {
			t.Errorf("Parent of %q is %q", name, parent)
		}
		if !impl.Under(name, parent) || impl.Under(parent, name) {
			t.Errorf("%q and its Parent %q: Under", name, parent)
		}
		if !impl.Before(parent, name) || impl.Before(name, parent) {
			t.Errorf("%q and its Parent %q: Before", name, parent)
		}
		for range labels {
			if !impl.Under(name, parent) {
				t.Errorf("%q is not Under %q", name, parent)
			}
			parent = impl.Parent(parent)
		}
		if parent != "" {
			t.Errorf("%q does not end at the root", name)
		}
	}
	for _, label := range []string{"a", "-", "zone", strings.Repeat("9", 12)} {
		if got := impl.Parent(label); got != "" {
			t.Errorf("Parent of %q is %q", label, got)
		}
	}
}

func TestStar(t *testing.T) {
	for _, name := range someNames()[1:] {
		star := impl.Star(name)
		if star != "*."+strings.Join(splitLabels(name)[1:], ".") {
			t.Errorf("Star of %q is %q", name, star)
		}
		if impl.NameOk(star) || len(impl.Labels(star)) != 0 || impl.Star(star) != "" || impl.Parent(star) != "" {
			t.Errorf("Star of %q is a name", name)
		}
		if impl.Under(star, impl.Parent(name)) || impl.Under(name, star) || impl.Before(star, name) || impl.Before(name, star) {
			t.Errorf("Star of %q: Under or Before", name)
		}
	}
	for name, want := range map[string]string{"": "", "a": "*.", "zone": "*.", "a.b": "*.b", "a.b.c.d.e.f": "*.b.c.d.e.f"} {
		if got := impl.Star(name); got != want {
			t.Errorf("Star of %q is %q", name, got)
		}
	}
}

// Promise 5: of any two that differ just one is Before the other, none is Before itself; and as the lists of labels have it.
func TestPromise5AnyTwo(t *testing.T) {
	names := someNames()
	for _, a := range names {
		for _, b := range names {
			before, after := impl.Before(a, b), impl.Before(b, a)
			if a == b && (before || after) || a != b && before == after {
				t.Fatalf("%q and %q: Before is %v and %v", a, b, before, after)
			}
			if before != (orderByLabels(a, b) < 0) {
				t.Fatalf("Before of %q and %q is %v", a, b, before)
			}
			if under := impl.Under(a, b); under != underByLabels(a, b) {
				t.Fatalf("Under of %q and %q is %v", a, b, under)
			}
		}
	}
}

// Promise 5: Before goes on from name to name; what lies between a name and one Under it is Under it, too.
func TestPromise5AnyThree(t *testing.T) {
	names := append(namesFrom(3, "a", "a-", "ba"), "-", "0.a", "0.a.a", "a0", "zone", "a.zone", "azone")
	for _, a := range names {
		for _, b := range names {
			if !impl.Before(a, b) {
				continue
			}
			for _, c := range names {
				if !impl.Before(b, c) {
					continue
				}
				if !impl.Before(a, c) {
					t.Fatalf("%q, %q, %q: Before does not go on", a, b, c)
				}
				if impl.Under(c, a) && !impl.Under(b, a) {
					t.Fatalf("%q is between %q and %q, but not Under the first one", b, a, c)
				}
			}
		}
	}
}

// Promise 5: Under goes on from name to name, and goes with the order.
func TestPromise5UnderGoesWithTheOrder(t *testing.T) {
	names := someNames()
	for _, a := range names {
		if !impl.Under(a, a) {
			t.Fatalf("%q is not Under itself", a)
		}
		for _, b := range names {
			if a == b || !impl.Under(a, b) {
				continue
			}
			if !impl.Before(b, a) || impl.Under(b, a) {
				t.Fatalf("%q is Under %q, which is not Before it", a, b)
			}
			if up := impl.Parent(a); !impl.Under(up, b) {
				t.Fatalf("%q is Under %q, its Parent is not", a, b)
			}
		}
	}
}

// Promise 5: sorted by Before, all that are Under a name stand right behind it, in one run.
func TestPromise5OneRunForEach(t *testing.T) {
	names := someNames()
	slices.SortFunc(names, func(a, b string) int {
		switch {
		case impl.Before(a, b):
			return -1
		case impl.Before(b, a):
			return 1
		}
		return 0
	})
	names = slices.Compact(names)
	for at, name := range names {
		run := true
		for i, other := range names {
			under := impl.Under(other, name)
			if i < at && under || i == at && !under {
				t.Fatalf("%q, Under %q: %v", other, name, under)
			}
			if i > at && under && !run {
				t.Fatalf("%q is Under %q, others between are not", other, name)
			}
			run = run && (i < at || under)
		}
	}
}

// A name that ends with another one's bytes is Under it behind a dot alone.
func TestUnderAsksForTheDot(t *testing.T) {
	for _, pair := range [][2]string{{"azone", "zone"}, {"-zone", "zone"}, {"a.bzone", "zone"}, {"aa", "a"}, {"a.aa", "a"}, {"xa.b", "a.b"}, {"zone", "a.zone"}, {"zone", "one"}, {"a.zone", "a"}, {"zone.a", "zone"}, {"a.b", "b.a"}, {"a-b", "b"}, {"a.b.c", "a.c"}, {"b.c", "a.b.c"}} {
		if impl.Under(pair[0], pair[1]) {
			t.Errorf("%q is Under %q", pair[0], pair[1])
		}
	}
	for _, pair := range [][2]string{{"zone", "zone"}, {"a.zone", "zone"}, {"-.zone", "zone"}, {"a.b.zone", "zone"}, {"a.b.zone", "b.zone"}, {"a.a", "a"}, {"a.b.c.d.e.f", "f"}, {"a.b.c.d.e.f", "b.c.d.e.f"}, {"a.b.c.d.e.f", "a.b.c.d.e.f"}, {"a", ""}, {"", ""}} {
		if !impl.Under(pair[0], pair[1]) {
			t.Errorf("%q is not Under %q", pair[0], pair[1])
		}
	}
}

// The order of whole texts, forwards or backwards, is another one.
func TestBeforeGoesByLabels(t *testing.T) {
	for _, pair := range [][2]string{{"z.a", "a.b"}, {"a", "a-"}, {"z.a", "a-"}, {"z.a", "0.a-"}, {"a.zone", "b.zone"}, {"z.a.zone", "b.zone"}, {"ab", "ba"}, {"9", "a"}, {"-", "0"}, {"z", "zz"}, {"a.z", "zz"}, {"f", "a.b.c.d.e.f"}, {"b.a", "a.b"}} {
		if !impl.Before(pair[0], pair[1]) || impl.Before(pair[1], pair[0]) {
			t.Errorf("%q is not Before %q", pair[0], pair[1])
		}
	}
}

// scribbleOn writes over all that an answer has, its spare room, too.
func scribbleOn[T any](list []T, mark T) {
	list = list[:cap(list)]
	for i := range list {
		list[i] = mark
	}
}

// Promise 21 of chapter 5: what is written into an answer of Labels changes no other answer.
func TestPromise21NameAnswersAreApart(t *testing.T) {
	for _, name := range someNames() {
		first, second := impl.Labels(name), impl.Labels(name)
		parent := impl.Labels(impl.Parent(name))
		scribbleOn(first, "scribble")
		if want := splitLabels(name); !slices.Equal(second, want) || !slices.Equal(impl.Labels(name), want) {
			t.Fatalf("%q: two answers share memory", name)
		}
		second = append(second, "one", "more")
		scribbleOn(second, "scribble")
		if want := splitLabels(impl.Parent(name)); !slices.Equal(parent, want) || !slices.Equal(impl.Labels(impl.Parent(name)), want) {
			t.Fatalf("%q: the answers of it and its Parent share memory", name)
		}
	}
}

// Promise 21: each argument gets the same answer again.
func TestPromise21NameAgain(t *testing.T) {
	texts := slices.Concat(edgeNames(), noNames(), namesFrom(2, closeLabels...))
	answers := func(i int, a string) string {
		b := texts[(i*7+3)%len(texts)]
		return fmt.Sprintf("%v %q %q %q %v %v", impl.NameOk(a), impl.Labels(a), impl.Parent(a), impl.Star(a), impl.Under(a, b), impl.Before(a, b))
	}
	first := []string{}
	for i, a := range texts {
		first = append(first, answers(i, a))
	}
	for i, a := range slices.Backward(texts) {
		if got := answers(i, a); got != first[i] {
			t.Fatalf("%.70q: %s, then %s", a, first[i], got)
		}
	}
}
