package tests

import (
	"cmp"
	"fmt"
	"maps"
	"math"
	"slices"
	"strings"
	"testing"

	"loop.example/g00307/impl"
)

// The constant has no kind of its own, so that it goes with any number.
const _ float64 = impl.MaxBook

// noNodes are wrong on either side, the nearest and the farthest.
var noNodes = []int64{math.MinInt64, math.MinInt64 + 1, -8, -7, -2, -1, 8, 9, 10, 1<<32 + 3, math.MaxInt64 - 1, math.MaxInt64}

func entry(key, value string, time, node int64) impl.Entry {
	return impl.Entry{Key: key, Value: value, Time: time, Node: node}
}

func goneEntry(key string, time, node int64) impl.Entry {
	return impl.Entry{Key: key, Time: time, Node: node, Gone: true}
}

func entryByWords(e impl.Entry) bool {
	key := len(e.Key) > 0 && len(e.Key) < 41
	value := len(e.Value) < 41 && !(e.Gone && len(e.Value) != 0)
	return key && value && e.Time != 0 && timeByWords(e.Time) && e.Node >= 0 && e.Node < 8
}

// bookByWords holds any two Keys against each other, where the program takes neighbours.
func bookByWords(book []impl.Entry) bool {
	for i, e := range book {
		if !entryByWords(e) {
			return false
		}
		for _, later := range book[i+1:] {
			if strings.Compare(e.Key, later.Key) != -1 {
				return false
			}
		}
	}
	return len(book) <= 80
}

func newerByWords(a, b impl.Entry) bool {
	gone := func(e impl.Entry) int {
		if e.Gone {
			return 1
		}
		return 0
	}
	return cmp.Or(cmp.Compare(a.Time, b.Time), cmp.Compare(a.Node, b.Node), gone(a)-gone(b), strings.Compare(a.Value, b.Value)) > 0
}

// joinedByWords goes by a map of Keys, where the program merges.
func joinedByWords(a, b []impl.Entry) ([]impl.Entry, bool) {
	if !bookByWords(a) || !bookByWords(b) {
		return nil, false
	}
	byKey := map[string]impl.Entry{}
	for _, e := range slices.Concat(a, b) {
		if other, known := byKey[e.Key]; !known || newerByWords(e, other) {
			byKey[e.Key] = e
		}
	}
	if len(byKey) > 80 {
		return nil, false
	}
	joined := []impl.Entry{}
	for _, key := range slices.Sorted(maps.Keys(byKey)) {
		joined = append(joined, byKey[key])
	}
	return joined, true
}

func entryOf(book []impl.Entry, key string) (impl.Entry, bool) {
	for _, e := range book {
		if e.Key == key {
			return e, true
		}
	}
	return impl.Entry{}, false
}

func sameBooks(a, b []impl.Entry) bool { return slices.Equal(a, b) }

// kinds are Entries of one Key, among them for each of Time, Node, Gone and Value two that differ in it alone.
func kinds(key string) []impl.Entry {
	list := []impl.Entry{}
	for _, time := range []int64{4, 5} {
		for _, node := range []int64{2, 3} {
			for _, value := range []string{"", "m", "n"} {
				list = append(list, entry(key, value, time, node))
			}
			list = append(list, goneEntry(key, time, node))
		}
	}
	return list
}

// bookOfKeys has one drawn Entry of each of these Keys, in order.
func bookOfKeys(draw func(int) int, keys []string) []impl.Entry {
	book := []impl.Entry{}
	for _, key := range slices.Sorted(slices.Values(keys)) {
		list := kinds(key)
		book = append(book, list[draw(len(list))])
	}
	return book
}

// numbered are n Keys, none of them alike, of which a later part has none in common with an earlier one.
func numbered(from, n int) []string {
	keys := []string{}
	for i := from; i < from+n; i++ {
		keys = append(keys, fmt.Sprintf("%03d", i))
	}
	return keys
}

// manyEntries are n in order, of the greatest Keys and Values that there are.
func manyEntries(n int) []impl.Entry {
	book := []impl.Entry{}
	for i := range n {
		book = append(book, entry(fmt.Sprintf("%s%03d", strings.Repeat("k", 37), i), strings.Repeat("v", 40), impl.MaxTime, 7))
	}
	return book
}

// oddKeys are texts with bytes of every kind, with one that begins another, in order.
func oddKeys() []string {
	keys := []string{"\x00", "\x00\x00", "\x00\xff", " ", "\n", "%", "A", "a", "a\x00", "aa", "ab", "b", "\x7f", "\x80", "é", "ü\xff", "\xff", "\xff\x00", "\xff\xff", strings.Repeat("\x00", 40), strings.Repeat("a", 39), strings.Repeat("a", 40), strings.Repeat("é", 20), strings.Repeat("\xff", 40)}
	slices.Sort(keys)
	return keys
}

// drawnPart is a drawn part of the Keys.
func drawnPart(draw func(int) int, keys []string, of int) []string {
	return slices.DeleteFunc(slices.Clone(keys), func(string) bool { return draw(of) == 0 })
}

// drawnTriples are three books each: of few Keys and of many, with all, some or none of them in common.
func drawnTriples() [][3][]impl.Entry {
	triples := [][3][]impl.Entry{}
	draw := drawFrom(11)
	odd := oddKeys()
	for range 300 {
		triples = append(triples,
			[3][]impl.Entry{bookOfKeys(draw, numbered(0, 5)), bookOfKeys(draw, numbered(0, 5)), bookOfKeys(draw, numbered(0, 5))},
			[3][]impl.Entry{bookOfKeys(draw, numbered(0, 5)), bookOfKeys(draw, numbered(3, 5)), bookOfKeys(draw, numbered(2, 4))},
			[3][]impl.Entry{bookOfKeys(draw, numbered(0, 9)), bookOfKeys(draw, numbered(9, 9)), bookOfKeys(draw, numbered(18, 9))},
			[3][]impl.Entry{bookOfKeys(draw, drawnPart(draw, odd, 2)), bookOfKeys(draw, drawnPart(draw, odd, 3)), bookOfKeys(draw, drawnPart(draw, odd, 4))},
			[3][]impl.Entry{bookOfKeys(draw, numbered(draw(40), 61)), bookOfKeys(draw, numbered(draw(40), 61)), bookOfKeys(draw, numbered(draw(40), 61))},
		)
	}
	for range 20 {
		triples = append(triples,
			[3][]impl.Entry{bookOfKeys(draw, numbered(0, 80)), bookOfKeys(draw, numbered(0, 80)), bookOfKeys(draw, numbered(0, 80))},
			[3][]impl.Entry{bookOfKeys(draw, numbered(0, 40)), bookOfKeys(draw, numbered(40, 40)), bookOfKeys(draw, numbered(20, 40))},
			[3][]impl.Entry{bookOfKeys(draw, numbered(0, 30)), bookOfKeys(draw, numbered(30, 30)), bookOfKeys(draw, numbered(60, 20+draw(2)))},
		)
	}
	return triples
}

// noEntries are wrong in one place, or in more.
func noEntries() []impl.Entry {
	list := []impl.Entry{{}, {Gone: true}}
	for _, key := range []string{"", strings.Repeat("a", 41), strings.Repeat("é", 20) + "a", strings.Repeat("\x00", 41), strings.Repeat("k", 1000)} {
		list = append(list, entry(key, "v", 5, 3), goneEntry(key, 5, 3))
	}
	for _, value := range []string{strings.Repeat("v", 41), strings.Repeat("é", 20) + "a", strings.Repeat("\xff", 41), strings.Repeat("v", 1000)} {
		list = append(list, entry("k", value, 5, 3))
	}
	for _, value := range []string{"\x00", "v", strings.Repeat("v", 40), strings.Repeat("v", 41)} {
		list = append(list, impl.Entry{Key: "k", Value: value, Time: 5, Node: 3, Gone: true})
	}
	for _, time := range append([]int64{0}, noTimes...) {
		list = append(list, entry("k", "v", time, 3), goneEntry("k", time, 3))
	}
	for _, node := range noNodes {
		list = append(list, entry("k", "v", 5, node), goneEntry("k", 5, node))
	}
	for _, far := range []int64{math.MinInt64, math.MaxInt64} {
		list = append(list, entry("k", "v", far, far))
	}
	return list
}

// noBooks are wrong in their Entries, their order or their number.
func noBooks() map[string][]impl.Entry {
	a, b, c := entry("a", "1", 5, 3), entry("b", "2", 5, 3), goneEntry("c", 6, 0)
	books := map[string][]impl.Entry{
		"one twice":                        {a, a},
		"two of one Key":                   {a, entry("a", "9", 9, 7)},
		"two of one Key, one Gone":         {c, entry("c", "", 6, 0)},
		"two of one Key, the Newer first":  {entry("a", "9", 9, 7), a},
		"two of one Key at the end":        {a, b, b},
		"two of one Key in the middle":     {a, b, entry("b", "", 4, 3), c},
		"one again, not side by side":      {a, b, a},
		"two in the wrong order":           {b, a},
		"the first two in the wrong order": {b, a, c},
		"the last two in the wrong order":  {a, c, b},
		"the first and the last changed":   {c, b, a},
		"by Time, not by Key":              {entry("b", "", 1, 0), entry("a", "", 2, 0)},
		"behind what it begins":            {entry("ab", "", 5, 3), a},
		"by length":                        {entry("b", "", 5, 3), entry("ab", "", 5, 3)},
		"a great byte ahead":               {entry("\xff", "", 5, 3), a},
		"81":                               manyEntries(81),
		"82":                               manyEntries(82),
		"200":                              manyEntries(200),
		"81 of one byte more":              slices.Concat(manyEntries(80), []impl.Entry{entry("z", "", 1, 0)}),
		"80, the last two alike":           slices.Concat(manyEntries(79), manyEntries(79)[78:]),
	}
	for i, wrong := range noEntries() {
		books[fmt.Sprintf("alone, wrong one %d", i)] = []impl.Entry{wrong}
		behind, amid := wrong, wrong
		if len(wrong.Key) == 1 {
			behind.Key, amid.Key = "z", "b"
		}
		books[fmt.Sprintf("last, wrong one %d", i)] = []impl.Entry{a, b, behind}
		books[fmt.Sprintf("first, wrong one %d", i)] = []impl.Entry{wrong, entry("y", "", 5, 3), entry("z", "", 5, 3)}
		books[fmt.Sprintf("amid, wrong one %d", i)] = []impl.Entry{a, amid, c}
	}
	return books
}

// someBooks are right, from none to as many as there may be.
func someBooks() [][]impl.Entry {
	draw := drawFrom(5)
	books := [][]impl.Entry{nil, {}, {entry("a", "", 1, 0)}, {goneEntry("a", impl.MaxTime, 7)}, {entry("a", "", 5, 3), entry("ab", "1", 5, 3), goneEntry("b", 5, 3)}}
	books = append(books, manyEntries(1), manyEntries(79), manyEntries(80), bookOfKeys(draw, oddKeys()), bookOfKeys(draw, numbered(0, 80)), bookOfKeys(draw, numbered(40, 80)), bookOfKeys(draw, numbered(80, 80)))
	for range 20 {
		books = append(books, bookOfKeys(draw, drawnPart(draw, oddKeys(), 2)), bookOfKeys(draw, drawnPart(draw, numbered(0, 9), 2)))
	}
	return books
}

func mustJoin(t *testing.T, a, b []impl.Entry) []impl.Entry {
	t.Helper()
	joined, ok := impl.Joined(a, b)
	if !ok || !impl.BookOk(joined) {
		t.Fatalf("Joined(%.500v, %.500v) = %.500v, %v", a, b, joined, ok)
	}
	return joined
}

func askJoined(t *testing.T, a, b []impl.Entry) {
	t.Helper()
	want, wantOk := joinedByWords(a, b)
	if got, ok := impl.Joined(a, b); ok != wantOk || !sameBooks(got, want) {
		t.Fatalf("Joined(%.500v, %.500v) = %.500v, %v, not %.500v, %v", a, b, got, ok, want, wantOk)
	}
}

func askNotJoined(t *testing.T, what string, a, b []impl.Entry) {
	t.Helper()
	if got, ok := impl.Joined(a, b); ok || len(got) > 0 {
		t.Fatalf("%s: Joined is %.500v, %v", what, got, ok)
	}
}

// askKey asks ValueOf of one Key, and whether Alive tells the same.
func askKey(t *testing.T, book []impl.Entry, key string) {
	t.Helper()
	e, there := entryOf(book, key)
	alive := there && !e.Gone
	if value, ok := impl.ValueOf(book, key); ok != alive || value != e.Value {
		t.Fatalf("ValueOf(%.500v, %q) = %q, %v", book, key, value, ok)
	}
	if slices.Contains(impl.Alive(book), key) != alive {
		t.Fatalf("Alive(%.500v) tells another thing of %q than ValueOf", book, key)
	}
}

// nearKeys are a Key and those that are almost it.
func nearKeys(key string) []string {
	return []string{key, key + "\x00", key + "a", key[:len(key)-1], key[:len(key)-1] + "\x01", "\x00" + key, strings.ToUpper(key), key + key}
}

// askBook asks all that is told of one right book.
func askBook(t *testing.T, book []impl.Entry) {
	t.Helper()
	if !impl.BookOk(book) {
		t.Fatalf("BookOk(%.500v) is false", book)
	}
	alive := []string{}
	for _, e := range book {
		if !impl.EntryOk(e) {
			t.Fatalf("EntryOk(%v) is false", e)
		}
		if !e.Gone {
			alive = append(alive, e.Key)
		}
		for _, key := range nearKeys(e.Key) {
			askKey(t, book, key)
		}
	}
	if got := impl.Alive(book); !slices.Equal(got, alive) || !slices.IsSorted(got) {
		t.Fatalf("Alive(%.500v) = %q", book, got)
	}
	for _, key := range []string{"", "\x00", "not there", strings.Repeat("k", 41), strings.Repeat("\xff", 300)} {
		askKey(t, book, key)
	}
}

func askIsNoBook(t *testing.T, what string, book []impl.Entry) {
	t.Helper()
	if impl.BookOk(book) || bookByWords(book) {
		t.Fatalf("%s: %.500v is a book", what, book)
	}
	if got := impl.Alive(book); len(got) > 0 {
		t.Fatalf("%s: Alive is %q", what, got)
	}
	for _, e := range append(slices.Clone(book), entry("k", "v", 5, 3), entry("", "", 0, 0)) {
		if value, ok := impl.ValueOf(book, e.Key); ok || value != "" {
			t.Fatalf("%s: ValueOf %q is %q, %v", what, e.Key, value, ok)
		}
		if got, ok := impl.Written(book, e); ok || len(got) > 0 {
			t.Fatalf("%s: Written of %v is %.500v, %v", what, e, got, ok)
		}
	}
}

func TestLatticeKnown(t *testing.T) {
	if impl.MaxBook != 80 {
		t.Fatal("constants")
	}
	mine := []impl.Entry{entry("a", "1", 3, 0), entry("b", "2", 3, 0), goneEntry("d", 9, 1)}
	yours := []impl.Entry{entry("b", "0", 3, 1), entry("c", "5", 1, 7), entry("d", "6", 8, 7)}
	ours := mustJoin(t, mine, yours)
	if want := []impl.Entry{entry("a", "1", 3, 0), entry("b", "0", 3, 1), entry("c", "5", 1, 7), goneEntry("d", 9, 1)}; !sameBooks(ours, want) {
		t.Fatalf("Joined = %v", ours)
	}
	if got := impl.Alive(ours); !slices.Equal(got, []string{"a", "b", "c"}) {
		t.Errorf("Alive = %q", got)
	}
	if value, ok := impl.ValueOf(ours, "b"); value != "0" || !ok {
		t.Errorf("ValueOf b = %q, %v", value, ok)
	}
	if value, ok := impl.ValueOf(ours, "d"); value != "" || ok {
		t.Errorf("ValueOf d = %q, %v", value, ok)
	}
	if got, ok := impl.Written(ours, entry("d", "", 9, 2)); !ok || !slices.Equal(impl.Alive(got), []string{"a", "b", "c", "d"}) {
		t.Errorf("Written = %v, %v", got, ok)
	}
}

// askEntry asks of one Entry in each way that there is whether it is right.
func askEntry(t *testing.T, e impl.Entry) {
	t.Helper()
	right := entryByWords(e)
	if got := impl.EntryOk(e); got != right {
		t.Fatalf("EntryOk(%.100v) is %v", e, got)
	}
	alone := []impl.Entry{e}
	if got := impl.BookOk(alone); got != right {
		t.Fatalf("BookOk of %.100v alone is %v", e, got)
	}
	want := alone
	if !right {
		want = nil
	}
	written, ok := impl.Written(nil, e)
	if ok != right || !sameBooks(written, want) {
		t.Fatalf("Written of %.100v into none is %.100v, %v", e, written, ok)
	}
	askJoined(t, alone, nil)
	askJoined(t, nil, alone)
	askJoined(t, alone, alone)
}

func TestEntriesAtTheirEdges(t *testing.T) {
	lengths := []int{0, 1, 2, 39, 40, 41, 42, 80, 256, 1000}
	nodes := slices.Concat(noNodes, []int64{0, 1, 3, 6, 7})
	times := slices.Concat(edgeTimes, noTimes)
	rightOnes := 0
	for _, key := range lengths {
		for _, value := range lengths {
			for _, time := range times {
				for _, node := range nodes {
					e := entry(strings.Repeat("k", key), strings.Repeat("v", value), time, node)
					askEntry(t, e)
					if entryByWords(e) {
						rightOnes++
					}
					e.Gone = true
					askEntry(t, e)
				}
			}
		}
	}
	if rightOnes != 4*5*13*5 {
		t.Fatalf("%d are right", rightOnes)
	}
}

func TestEntriesOfEveryByte(t *testing.T) {
	for b := range 256 {
		one := string([]byte{byte(b)})
		for _, n := range []int{0, 1, 39, 40, 41} {
			askEntry(t, entry(strings.Repeat(one, n), "v", 1, 0))
			askEntry(t, entry("k", strings.Repeat(one, n), 1, 0))
			askEntry(t, impl.Entry{Key: "k", Value: strings.Repeat(one, n), Time: 1, Gone: true})
		}
	}
	for _, letter := range []string{"é", "€", "𝄞"} {
		for n := 1; n < 42; n++ {
			askEntry(t, entry(strings.Repeat(letter, n), "v", 1, 0))
			askEntry(t, entry("k", strings.Repeat(letter, n), 1, 0))
		}
	}
}

func TestNoEntry(t *testing.T) {
	for i, e := range noEntries() {
		if entryByWords(e) {
			t.Fatalf("wrong one %d is right", i)
		}
		askEntry(t, e)
		for _, book := range someBooks() {
			if got, ok := impl.Written(book, e); ok || len(got) > 0 {
				t.Fatalf("wrong one %d is Written: %.500v, %v", i, got, ok)
			}
		}
	}
}

// askNewer wants just one to be Newer where the two differ in anything but their Keys, and none where they do not.
func askNewer(t *testing.T, a, b impl.Entry) {
	t.Helper()
	ab, ba := impl.Newer(a, b), impl.Newer(b, a)
	if ab != newerByWords(a, b) || ba != newerByWords(b, a) {
		t.Fatalf("Newer(%v, %v) is %v, the other way %v", a, b, ab, ba)
	}
	b.Key = a.Key
	if (a == b) == (ab || ba) || ab && ba {
		t.Fatalf("%v and %v: %v and %v", a, b, ab, ba)
	}
}

func TestNewerStepByStep(t *testing.T) {
	less := impl.Entry{Key: "k", Value: "m", Time: 5, Node: 3}
	ask := func(more impl.Entry) {
		t.Helper()
		for _, key := range []string{"", "a", "k", "z"} {
			more.Key = key
			if !impl.Newer(more, less) || impl.Newer(less, more) {
				t.Errorf("%v is not Newer than %v", more, less)
			}
		}
	}
	ask(entry("", "m", 6, 3))
	ask(entry("", "m", 5, 4))
	ask(impl.Entry{Value: "m", Time: 5, Node: 3, Gone: true})
	ask(entry("", "ma", 5, 3))
	ask(entry("", "a", 6, 0))
	ask(entry("", "a", 5, 4))
	ask(goneEntry("", 5, 3))
	less.Gone = true
	ask(entry("", "", 6, 0))
	ask(entry("", "", 5, 4))
	ask(impl.Entry{Value: "n", Time: 5, Node: 3, Gone: true})
	for _, key := range []string{"", "a", "k", "z"} {
		same := less
		same.Key = key
		if impl.Newer(same, less) || impl.Newer(less, same) {
			t.Errorf("one of %v and %v is Newer", same, less)
		}
	}
}

// Newer is asked of right Entries and of wrong ones: it does not ask which they are.
func TestNewerOfAny(t *testing.T) {
	numbers := []int64{math.MinInt64, math.MinInt64 + 1, -1, 0, 1, 7, 8, 1000000, 1000001, 1 << 32, math.MaxInt64 - 1, math.MaxInt64}
	values := []string{"", "\x00", "9", "a", "a\x00", "b", "\xff", strings.Repeat("v", 41)}
	list := []impl.Entry{}
	for _, time := range numbers {
		for _, node := range numbers {
			for i, value := range values {
				key := []string{"k", "a", ""}[i%3]
				list = append(list, entry(key, value, time, node), impl.Entry{Key: key, Value: value, Time: time, Node: node, Gone: true})
			}
		}
	}
	for i, a := range list {
		for _, b := range list[:i+1] {
			askNewer(t, a, b)
		}
	}
}

func TestNewerByEachByteOfValues(t *testing.T) {
	for i := range 256 {
		for j := range 256 {
			a, b := entry("k", string([]byte{byte(i)}), 5, 3), entry("k", string([]byte{byte(j)}), 5, 3)
			if impl.Newer(a, b) != (i > j) {
				t.Fatalf("Newer(%v, %v)", a, b)
			}
		}
	}
}

// None is Newer than itself, and Newer goes on: so there is one newest, whoever asks.
func TestPromise11NewerIsAnOrder(t *testing.T) {
	list := kinds("k")
	for _, a := range list {
		for _, b := range list {
			askNewer(t, a, b)
			for _, c := range list {
				if impl.Newer(a, b) && impl.Newer(b, c) && !impl.Newer(a, c) {
					t.Fatalf("%v, %v, %v", a, b, c)
				}
			}
		}
	}
}

func TestBooksRight(t *testing.T) {
	for _, book := range someBooks() {
		if !bookByWords(book) {
			t.Fatalf("%.500v is no book", book)
		}
		askBook(t, book)
		askJoined(t, book, nil)
		askJoined(t, nil, book)
	}
}

func TestBooksOfTwoKeys(t *testing.T) {
	keys := append(oddKeys(), "k", "ka", "kb", strings.Repeat("k", 40), strings.Repeat("k", 39)+"\x00", "k\xff")
	for b := range 256 {
		keys = append(keys, string([]byte{byte(b)}))
	}
	for _, a := range keys {
		for _, b := range keys {
			book := []impl.Entry{entry(a, "1", 2, 3), entry(b, "1", 2, 3)}
			if got := impl.BookOk(book); got != (a < b) {
				t.Fatalf("BookOk of %q and %q is %v", a, b, got)
			}
			askJoined(t, book[:1], book[1:])
		}
	}
}

func TestBooksAsManyAsAny(t *testing.T) {
	for n := range 90 {
		book := manyEntries(n)
		if got := impl.BookOk(book); got != (n <= 80) {
			t.Fatalf("BookOk of %d is %v", n, got)
		}
		if n <= 80 {
			askBook(t, book)
		} else {
			askIsNoBook(t, fmt.Sprint(n), book)
		}
	}
}

func TestNoBook(t *testing.T) {
	books := someBooks()
	wrong := noBooks()
	for what, book := range wrong {
		askIsNoBook(t, what, book)
		for _, right := range books {
			askNotJoined(t, what+" in front", book, right)
			askNotJoined(t, what+" behind", right, book)
		}
		for other, also := range wrong {
			askNotJoined(t, what+" and "+other, book, also)
		}
		askNotJoined(t, what+" twice", book, book)
	}
}

// Each place of a book is looked at, the first and the last of 80 among them.
func TestNoBookByOneEntry(t *testing.T) {
	right := manyEntries(80)
	for at := range right {
		for i, e := range []impl.Entry{
			{Key: right[at].Key, Value: "v", Time: 5, Node: 8},
			{Key: right[at].Key, Value: "v", Time: 0, Node: 7},
			{Key: right[at].Key, Value: "v", Time: 5, Node: 7, Gone: true},
			{Key: right[at].Key, Value: strings.Repeat("v", 41), Time: 5, Node: 7},
			{Key: right[(at+1)%80].Key, Value: "v", Time: 5, Node: 7},
			{Key: right[(at+79)%80].Key, Value: "v", Time: 5, Node: 7},
		} {
			book := slices.Clone(right)
			book[at] = e
			what := fmt.Sprintf("wrong one %d at %d", i, at)
			askIsNoBook(t, what, book)
			askNotJoined(t, what, book, nil)
			askNotJoined(t, what, right[:40], book)
		}
	}
}

// askPromise11 is the promise, word by word, of what is asked for in one book.
func askPromise11(t *testing.T, a, b []impl.Entry) {
	t.Helper()
	joined, ok := impl.Joined(a, b)
	other, otherOk := impl.Joined(b, a)
	if ok != otherOk || !sameBooks(joined, other) {
		t.Fatalf("Joined of %.500v and %.500v is %.500v, the other way %.500v", a, b, joined, other)
	}
	if again := mustJoin(t, a, a); !sameBooks(again, a) {
		t.Fatalf("Joined of %.500v with itself is %.500v", a, again)
	}
	if !ok {
		return
	}
	for _, one := range [][]impl.Entry{a, b, joined} {
		if more, back := mustJoin(t, joined, one), mustJoin(t, one, joined); !sameBooks(more, joined) || !sameBooks(back, joined) {
			t.Fatalf("%.500v with %.500v once more is %.500v or %.500v", joined, one, more, back)
		}
	}
	askNewest(t, a, b, joined)
}

// askNewest wants one Entry of each Key, out of a or b, than which neither has a Newer one.
func askNewest(t *testing.T, a, b, joined []impl.Entry) {
	t.Helper()
	if !impl.BookOk(joined) {
		t.Fatalf("%.500v is no book", joined)
	}
	all := slices.Concat(a, b)
	for _, e := range joined {
		if !slices.Contains(all, e) {
			t.Fatalf("%v comes from nowhere", e)
		}
	}
	for _, e := range all {
		kept := slices.DeleteFunc(slices.Clone(joined), func(one impl.Entry) bool { return one.Key != e.Key })
		if len(kept) != 1 || impl.Newer(e, kept[0]) {
			t.Fatalf("of %v there is %v", e, kept)
		}
	}
}

// askBothWays wants a and b with c to be a with b and c, and tells whether there is that: all of them are true, or neither way is.
func askBothWays(t *testing.T, a, b, c []impl.Entry) bool {
	t.Helper()
	ab, abOk := impl.Joined(a, b)
	left, leftOk := impl.Joined(ab, c)
	bc, bcOk := impl.Joined(b, c)
	right, rightOk := impl.Joined(a, bc)
	ok := abOk && leftOk
	if ok != (bcOk && rightOk) || ok && !sameBooks(left, right) {
		t.Fatalf("%.500v, %.500v, %.500v: %.500v, %.500v", a, b, c, left, right)
	}
	return ok
}

func TestPromise11DrawnBooks(t *testing.T) {
	whole, refused := 0, 0
	for _, books := range drawnTriples() {
		for _, a := range books {
			for _, b := range books {
				askJoined(t, a, b)
				askPromise11(t, a, b)
				for _, c := range books {
					if askBothWays(t, a, b, c) {
						whole++
					} else {
						refused++
					}
				}
			}
		}
	}
	if whole < 20000 || refused < 1000 {
		t.Fatalf("%d whole, %d refused", whole, refused)
	}
}

// Of the drawn books some differ in just one thing of an Entry, for each of the four.
func TestDrawnBooksDifferInOneThing(t *testing.T) {
	counts := map[string]int{}
	for _, books := range drawnTriples() {
		for _, a := range books[0] {
			if b, there := entryOf(books[1], a.Key); there && a != b {
				counts[onlyOne(a, b)]++
			}
		}
	}
	for _, what := range []string{"Time", "Node", "Gone", "Value"} {
		if counts[what] < 50 {
			t.Errorf("%d differ in %s alone", counts[what], what)
		}
	}
}

func onlyOne(a, b impl.Entry) string {
	for what, set := range map[string]func(){"Time": func() { a.Time = b.Time }, "Node": func() { a.Node = b.Node }, "Gone": func() { a.Gone = b.Gone }, "Value": func() { a.Value = b.Value }} {
		before := a
		if set(); a == b {
			return what
		}
		a = before
	}
	return "more"
}

// Each three books of one Key, in full.
func TestPromise11EachOfOneKey(t *testing.T) {
	books := [][]impl.Entry{{}}
	for _, e := range kinds("k") {
		books = append(books, []impl.Entry{e})
	}
	askEachThree(t, books)
}

// Each three books of two Keys, in which one Newer than another in one thing is older in the next.
func TestPromise11EachOfTwoKeys(t *testing.T) {
	few := func(key string) [][]impl.Entry {
		return [][]impl.Entry{{}, {entry(key, "n", 4, 2)}, {entry(key, "", 4, 3)}, {goneEntry(key, 4, 2)}, {entry(key, "", 5, 2)}, {entry(key, "m", 4, 2)}}
	}
	books := [][]impl.Entry{}
	for _, first := range few("a") {
		for _, second := range few("ab") {
			books = append(books, slices.Concat(first, second))
		}
	}
	askEachThree(t, books)
}

func askEachThree(t *testing.T, books [][]impl.Entry) {
	t.Helper()
	for _, a := range books {
		for _, b := range books {
			askJoined(t, a, b)
			askPromise11(t, a, b)
			for _, c := range books {
				if !askBothWays(t, a, b, c) {
					t.Fatalf("%v, %v, %v are not Joined", a, b, c)
				}
			}
		}
	}
}

// Promise 11: books that are told in drawn orders, some of them again and again, come to one, and so do their Entries one by one.
func TestPromise11AnyOrderAnyNumberOfTimes(t *testing.T) {
	draw := drawFrom(77)
	for range 60 {
		books := [][]impl.Entry{}
		for range 6 {
			books = append(books, bookOfKeys(draw, drawnPart(draw, numbered(0, 12), 2)))
		}
		want := []impl.Entry{}
		for _, book := range books {
			want = mustJoin(t, want, book)
		}
		for range 5 {
			if got := toldInAnyOrder(t, draw, books); !sameBooks(got, want) {
				t.Fatalf("%v, in another order %v", want, got)
			}
			if got := writtenInAnyOrder(t, draw, slices.Concat(books...)); !sameBooks(got, want) {
				t.Fatalf("%v, one by one %v", want, got)
			}
		}
	}
}

func toldInAnyOrder(t *testing.T, draw func(int) int, books [][]impl.Entry) []impl.Entry {
	t.Helper()
	got := []impl.Entry{}
	left := slices.Clone(books)
	for len(left) > 0 {
		at := draw(len(left))
		if draw(2) == 0 {
			got = mustJoin(t, got, left[at])
		} else {
			got = mustJoin(t, left[at], got)
		}
		if draw(3) > 0 {
			left = slices.Delete(left, at, at+1)
		}
	}
	return got
}

func writtenInAnyOrder(t *testing.T, draw func(int) int, entries []impl.Entry) []impl.Entry {
	t.Helper()
	got := []impl.Entry{}
	for len(entries) > 0 {
		at := draw(len(entries))
		next, ok := impl.Written(got, entries[at])
		if !ok {
			t.Fatalf("Written(%v, %v)", got, entries[at])
		}
		got = next
		if draw(3) > 0 {
			entries = slices.Delete(entries, at, at+1)
		}
	}
	return got
}

// Joined of books that have a given number of Keys in all.
func TestJoinedAsManyAsAny(t *testing.T) {
	draw := drawFrom(3)
	for _, n := range []int{0, 1, 39, 40, 41, 79, 80} {
		for _, m := range []int{0, 1, 39, 40, 41, 79, 80} {
			for _, common := range []int{0, 1, min(n, m) - 1, min(n, m)} {
				if common < 0 || common > min(n, m) {
					continue
				}
				a, b := bookOfKeys(draw, numbered(0, n)), bookOfKeys(draw, numbered(n-common, m))
				all := n + m - common
				got, ok := impl.Joined(a, b)
				if ok != (all <= 80) || ok && len(got) != all || !ok && len(got) > 0 {
					t.Fatalf("%d and %d, %d in common: %d, %v", n, m, common, len(got), ok)
				}
				askJoined(t, a, b)
				askJoined(t, b, a)
			}
		}
	}
}

// The one Key that is too many stands ahead of all, between them, or behind all.
func TestJoinedWithOneTooMany(t *testing.T) {
	full := manyEntries(80)
	for _, key := range []string{"\x00", "a", full[0].Key[:39], full[40].Key[:39] + "\xff", full[79].Key[:39] + "\xff", "z", "\xff"} {
		one := entry(key, "", 1, 0)
		askNotJoined(t, key, full, []impl.Entry{one})
		askNotJoined(t, key, []impl.Entry{one}, full)
		if got, ok := impl.Written(full, one); ok || len(got) > 0 {
			t.Fatalf("Written of %q: %.500v, %v", key, got, ok)
		}
		if got, ok := impl.Written(full[1:], one); !ok || len(got) != 80 || !slices.Contains(got, one) {
			t.Fatalf("Written of %q into 79: %.500v, %v", key, got, ok)
		}
	}
	older, newer := full[40], full[40]
	older.Node, newer.Value = 6, strings.Repeat("w", 40)
	for _, e := range []impl.Entry{older, full[40], newer} {
		askWritten(t, full, e)
	}
}

// askWritten wants e where nothing Newer was, and all others as they were.
func askWritten(t *testing.T, book []impl.Entry, e impl.Entry) {
	t.Helper()
	got, ok := impl.Written(book, e)
	if !ok || !impl.BookOk(got) {
		t.Fatalf("Written(%.500v, %v) = %.500v, %v", book, e, got, ok)
	}
	was, there := entryOf(book, e.Key)
	if there && newerByWords(was, e) {
		if !sameBooks(got, book) {
			t.Fatalf("Written(%.500v, %v) is not as it was: %.500v", book, e, got)
		}
		return
	}
	if now, is := entryOf(got, e.Key); !is || now != e {
		t.Fatalf("Written(%.500v, %v) = %.500v", book, e, got)
	}
	if value, alive := impl.ValueOf(got, e.Key); value != e.Value || alive == e.Gone {
		t.Fatalf("ValueOf %q is %q, %v", e.Key, value, alive)
	}
	without := func(list []impl.Entry) []impl.Entry {
		return slices.DeleteFunc(slices.Clone(list), func(one impl.Entry) bool { return one.Key == e.Key })
	}
	if !sameBooks(without(got), without(book)) {
		t.Fatalf("Written(%.500v, %v) changes others: %.500v", book, e, got)
	}
}

func TestWritten(t *testing.T) {
	for _, book := range someBooks() {
		if len(book) == 80 {
			for at := 0; at < 80; at += 13 {
				for _, e := range kinds(book[at].Key) {
					askWritten(t, book, e)
				}
			}
			continue
		}
		for _, key := range slices.Concat([]string{"\x00\x01", "aab", "zz", "\xff\xff\xff"}, oddKeys()) {
			for _, e := range kinds(key) {
				if len(book) < 79 {
					askWritten(t, book, e)
				}
			}
		}
		for _, was := range book {
			for _, e := range kinds(was.Key) {
				askWritten(t, book, e)
			}
		}
	}
}

// What is Gone comes back only by what is Newer, and its Value does not.
func TestWrittenGoneAndBack(t *testing.T) {
	book := []impl.Entry{entry("a", "1", 5, 3), entry("k", "old", 5, 3), entry("z", "2", 5, 3)}
	ask := func(e impl.Entry, value string, alive bool) {
		t.Helper()
		askWritten(t, book, e)
		book, _ = impl.Written(book, e)
		if got, ok := impl.ValueOf(book, "k"); got != value || ok != alive {
			t.Fatalf("after %v: %q, %v", e, got, ok)
		}
		want := []string{"a", "k", "z"}
		if !alive {
			want = []string{"a", "z"}
		}
		if got := impl.Alive(book); !slices.Equal(got, want) {
			t.Fatalf("after %v: %q", e, got)
		}
	}
	ask(goneEntry("k", 4, 7), "old", true)
	ask(goneEntry("k", 5, 2), "old", true)
	ask(goneEntry("k", 5, 3), "", false)
	ask(entry("k", "old", 5, 3), "", false)
	ask(entry("k", "zzz", 5, 3), "", false)
	ask(entry("k", "", 5, 4), "", true)
	ask(entry("k", "\x00", 5, 4), "\x00", true)
	ask(entry("k", "", 5, 4), "\x00", true)
	ask(goneEntry("k", impl.MaxTime, 0), "", false)
	ask(entry("k", "new", impl.MaxTime, 1), "new", true)
}

// A Value that is empty is one, where the Entry is not Gone.
func TestValueOfEmpty(t *testing.T) {
	book := []impl.Entry{entry("a", "", 1, 0), goneEntry("b", 1, 0), entry("c", strings.Repeat("\x00", 40), impl.MaxTime, 7)}
	for key, want := range map[string]struct {
		value string
		ok    bool
	}{"a": {"", true}, "b": {"", false}, "c": {strings.Repeat("\x00", 40), true}, "d": {"", false}, "": {"", false}, "A": {"", false}} {
		if value, ok := impl.ValueOf(book, key); value != want.value || ok != want.ok {
			t.Errorf("ValueOf %q = %q, %v", key, value, ok)
		}
	}
	if got := impl.Alive(book); !slices.Equal(got, []string{"a", "c"}) {
		t.Errorf("Alive = %q", got)
	}
}

func TestJoinedAsTheChapterSays(t *testing.T) {
	books := someBooks()
	for _, wrong := range noBooks() {
		books = append(books, wrong)
	}
	for _, a := range books {
		for _, b := range books {
			askJoined(t, a, b)
		}
	}
	for _, books := range drawnTriples()[:200] {
		for _, book := range books {
			askBook(t, book)
		}
	}
}

// latticeArguments are pairs of books, and of what is none.
func latticeArguments() [][2][]impl.Entry {
	pairs := [][2][]impl.Entry{}
	right := someBooks()
	for i, book := range right {
		pairs = append(pairs, [2][]impl.Entry{book, right[(i+1)%len(right)]}, [2][]impl.Entry{book, book})
	}
	for _, what := range slices.Sorted(maps.Keys(noBooks())) {
		wrong := noBooks()[what]
		pairs = append(pairs, [2][]impl.Entry{wrong, right[4]}, [2][]impl.Entry{right[4], wrong})
	}
	for _, books := range drawnTriples()[:50] {
		pairs = append(pairs, [2][]impl.Entry{books[0], books[1]}, [2][]impl.Entry{books[2], books[0]})
	}
	return pairs
}

type latticeAnswer struct {
	joined, back, written []impl.Entry
	alive, other          []string
	told                  string
}

// latticeAnswers asks all functions that take a book.
func latticeAnswers(a, b []impl.Entry) (l latticeAnswer) {
	e := entry("k", "v", 5, 3)
	if len(b) > 0 {
		e = b[len(b)/2]
	}
	var oks [3]bool
	l.joined, oks[0] = impl.Joined(a, b)
	l.back, oks[1] = impl.Joined(b, a)
	l.written, oks[2] = impl.Written(a, e)
	l.alive, l.other = impl.Alive(a), impl.Alive(b)
	value, ok := impl.ValueOf(a, e.Key)
	l.told = fmt.Sprint(oks, impl.BookOk(a), impl.BookOk(b), impl.EntryOk(e), ok) + value
	return l
}

func (l latticeAnswer) clone() latticeAnswer {
	return latticeAnswer{slices.Clone(l.joined), slices.Clone(l.back), slices.Clone(l.written), slices.Clone(l.alive), slices.Clone(l.other), strings.Clone(l.told)}
}

func (l latticeAnswer) same(m latticeAnswer) bool {
	lists := sameBooks(l.joined, m.joined) && sameBooks(l.back, m.back) && sameBooks(l.written, m.written)
	return lists && slices.Equal(l.alive, m.alive) && slices.Equal(l.other, m.other) && l.told == m.told
}

var scribbled = impl.Entry{Key: "scribble", Value: "scribble", Time: -9, Node: -9, Gone: true}

func (l latticeAnswer) scribble() {
	for _, list := range [][]impl.Entry{l.joined, l.back, l.written} {
		scribbleOn(list, scribbled)
	}
	scribbleOn(l.alive, "scribble")
	scribbleOn(l.other, "scribble")
}

// Promise 21 of chapter 11: nothing is written into an argument or the room behind it, and no answer lies there.
func TestPromise21LatticeArgumentsStay(t *testing.T) {
	mark := entry("room", "room", -7, -7)
	for i, pair := range latticeArguments() {
		for _, room := range []int{0, 1, 90} {
			a, allA := roomyOf(pair[0], room, mark)
			b, allB := roomyOf(pair[1], room, mark)
			beforeA, beforeB := slices.Clone(allA), slices.Clone(allB)
			got := latticeAnswers(a, b)
			if !sameBooks(allA, beforeA) || !sameBooks(allB, beforeB) {
				t.Fatalf("pair %d with room for %d: something was written", i, room)
			}
			got.scribble()
			if !sameBooks(allA, beforeA) || !sameBooks(allB, beforeB) {
				t.Fatalf("pair %d with room for %d: an answer shares memory", i, room)
			}
		}
	}
}

// Promise 21: the same of arguments that are one slice, that lie one behind the other in one array, and that overlap.
func TestPromise21LatticeArgumentsInOneArray(t *testing.T) {
	for i, pair := range latticeArguments() {
		a, b := pair[0], pair[1]
		want, wantSame := latticeAnswers(a, b).clone(), latticeAnswers(a, a).clone()
		all := slices.Concat(a, b, slices.Repeat([]impl.Entry{scribbled}, 5))
		before := slices.Clone(all)
		front, behind := all[:len(a)], all[len(a):len(a)+len(b)]
		both, same := latticeAnswers(front, behind), latticeAnswers(front, front)
		if !both.same(want) || !same.same(wantSame) || !sameBooks(all, before) {
			t.Fatalf("pair %d in one array: %.500v", i, both)
		}
		both.scribble()
		if !same.same(wantSame) || !sameBooks(all, before) {
			t.Fatalf("pair %d in one array: an answer shares memory", i)
		}
		same.scribble()
		if !sameBooks(all, before) {
			t.Fatalf("pair %d, one slice twice: an answer shares memory", i)
		}
	}
	book := manyEntries(80)
	for from := range 80 {
		for _, to := range []int{from, (from + 80) / 2, 80} {
			latticeAnswers(book[:to], book[from:]).scribble()
			askJoined(t, book[:to], book[from:])
			askJoined(t, book[from:], book[:to])
		}
	}
	if !sameBooks(book, manyEntries(80)) {
		t.Fatal("something was written into a book that two arguments share")
	}
}

// Promise 21: an argument that is written to later changes no answer.
func TestPromise21LatticeAnswersStay(t *testing.T) {
	for i, pair := range latticeArguments() {
		a, allA := roomyOf(pair[0], 3, impl.Entry{})
		b, allB := roomyOf(pair[1], 3, impl.Entry{})
		got := latticeAnswers(a, b)
		want := got.clone()
		scribbleOn(allA, scribbled)
		scribbleOn(allB, scribbled)
		if !got.same(want) {
			t.Fatalf("pair %d: an answer shares memory", i)
		}
	}
}

// Promise 21: two answers to the same, and answers out of answers, have nothing in common.
func TestPromise21LatticeAnswersAreApart(t *testing.T) {
	for i, pair := range latticeArguments() {
		first, second := latticeAnswers(pair[0], pair[1]), latticeAnswers(pair[0], pair[1])
		on := latticeAnswers(first.joined, first.written)
		want, wantOn := second.clone(), on.clone()
		scribbleOn(first.back, scribbled)
		if !sameBooks(first.joined, want.joined) || !sameBooks(first.written, want.written) {
			t.Fatalf("pair %d: two lists share memory", i)
		}
		scribbleOn(first.written, scribbled)
		if !sameBooks(first.joined, want.joined) {
			t.Fatalf("pair %d: two lists share memory", i)
		}
		first.scribble()
		if !second.same(want) || !on.same(wantOn) {
			t.Fatalf("pair %d: two answers share memory", i)
		}
		on.scribble()
		if !second.same(want) || !latticeAnswers(pair[0], pair[1]).same(want) {
			t.Fatalf("pair %d: two answers share memory", i)
		}
	}
}

// Promise 21: what is appended to one answer is in no other.
func TestPromise21LatticeTwoWaysOn(t *testing.T) {
	for _, book := range someBooks() {
		if len(book) >= 79 {
			continue
		}
		one, ok := impl.Written(book, entry("\xff\xff\xff\xfe", "", 1, 0))
		left, leftOk := impl.Written(one, entry("\xff\xff\xff\xff", "left", 1, 0))
		want := slices.Clone(left)
		right, rightOk := impl.Written(one, entry("\xff\xff\xff\xff", "right", 1, 0))
		if !ok || !leftOk || !rightOk || !sameBooks(left, want) || sameBooks(left, right) {
			t.Fatalf("%.500v: %.500v, %.500v", book, left, right)
		}
	}
}

// Promise 21: the same arguments get the same answer again, whatever was asked in between.
func TestPromise21LatticeAgain(t *testing.T) {
	pairs := latticeArguments()
	first := []latticeAnswer{}
	for _, pair := range pairs {
		first = append(first, latticeAnswers(pair[0], pair[1]))
	}
	for i, pair := range slices.Backward(pairs) {
		if got := latticeAnswers(pair[0], pair[1]); !got.same(first[i]) {
			t.Fatalf("pair %d: %.500v, then %.500v", i, first[i], got)
		}
	}
}
